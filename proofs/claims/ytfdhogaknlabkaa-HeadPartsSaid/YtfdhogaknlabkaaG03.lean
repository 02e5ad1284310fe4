/-
  Texts of one seat, put together: AscN, AscQ, AscC, AscI.
-/
import Derived.Test.YtfdhogaknlabkaaG02
import Derived.Lib.ConvBytes
import Derived.Lib.BufferMore
import Derived.Lib.IndexLaws
import Derived.RegionTactic
import Derived.RangeFuncNested
import Derived.RangeFuncBound
import Derived.RangeFuncCalls
import Derived.RangeFuncLeaves
import Derived.Shelf.Abstract
import Derived.Shelf.RegionOpen
import Derived.WalkKit
import Derived.OwnWalkIn
import Derived.TacticsInMore
import Derived.LoopNIn
import Derived.LoopIn
import Derived.RegionIn
import Derived.Outline
import Derived.Sort.LoopGhostIn
set_option linter.unusedSimpArgs false
set_option linter.unusedVariables false
namespace Go.Proofs.Ytfdhogaknlabkaa
open Go.RowKit
namespace Hx
open As
set_option linter.unusedVariables false
theorem kind_blk (c : UInt8) (b : Bool) (h : blk c = b) : (((kindOf c).toNat : Int) == 1) = b := by
  rw [← h, ← kind_blank c, show (((kindOf c).toNat : Int) == 1) = decide (((kindOf c).toNat : Int) = 1) from rfl, decide_eq_decide]
  constructor
  · intro e
    exact UInt8.toNat_inj.1 (by show _ = 1; omega)
  · intro e
    rw [e]
    rfl
theorem drop_next {l : List UInt8} {j : Nat} {c : UInt8} (h : l[j]? = some c) : l.drop j = c :: l.drop (j + 1) := by
  obtain ⟨hk, e⟩ := List.getElem?_eq_some_iff.1 h
  rw [List.drop_eq_getElem_cons hk, e]
/-- What stands between the blanks at both ends. -/
theorem trim_cut (s : ByteArray) (k m : Nat) (hkm : k < m) (hm : m ≤ s.size) (h1 : (s.data.toList.take k).all blk = true) (h2 : ∀ c, s.data.toList[k]? = some c → blk c = false) (h3 : (s.data.toList.drop m).all blk = true) (h4 : ∀ c, s.data.toList[m - 1]? = some c → blk c = false) : trimS s = s.extract k m := by
  have hl := ba_len7 s
  have e : s.data.toList = s.data.toList.take k ++ (s.data.toList.drop k).take (m - k) ++ s.data.toList.drop m := by
    rw [List.append_assoc]
    have : s.data.toList.drop m = (s.data.toList.drop k).drop (m - k) := by rw [List.drop_drop]; congr 1; omega
    rw [this, List.take_append_drop, List.take_append_drop]
  rw [extract_mid]
  unfold trimS mkB
  congr 2
  conv => lhs; rw [e]
  refine trim_of _ _ _ h1 h3 ?_ ?_
  · intro c r hcr
    refine h2 c ?_
    have h5 : ((s.data.toList.drop k).take (m - k))[0]? = some c := by rw [hcr]; rfl
    rw [List.getElem?_take, if_pos (by omega), List.getElem?_drop, Nat.add_zero] at h5
    exact h5
  · intro c r hcr
    refine h4 c ?_
    have hlen : ((s.data.toList.drop k).take (m - k)).length = m - k := by rw [List.length_take, List.length_drop]; omega
    have hr : r.length = m - k - 1 := by rw [hcr] at hlen; simp at hlen; omega
    have h5 : ((s.data.toList.drop k).take (m - k))[m - k - 1]? = some c := by rw [hcr, ← hr]; simp
    rw [List.getElem?_take, if_pos (by omega), List.getElem?_drop] at h5
    rw [show k + (m - k - 1) = m - 1 by omega] at h5
    exact h5
theorem trim_none (s : ByteArray) (k : Nat) (hk : k ≤ s.size) (h1 : (s.data.toList.take k).all blk = true) (h3 : (s.data.toList.drop k).all blk = true) : trimS s = s.extract k k := by
  rw [extract_mid, Nat.sub_self, List.take_zero]
  unfold trimS mkB
  congr 2
  apply trim_blank
  rw [← List.take_append_drop k s.data.toList, List.all_append, h1, h3]
  rfl
set_option maxHeartbeats 4000000 in
set_option maxRecDepth 100000 in
/-- trim: a text without the blanks at both ends. -/
theorem trimK (s t : ByteArray) (O : Array Value) (w : World) (hO : (kd.map encK).toArray = O) (hm : s.size ≤ 1000000) (ht : trimS s = t) :
    Calls Try.prog 78 #[.string s, .agg O] w fun e w' => e = .returned (.string t) ∧ Below w.heap.size w w' := by
  have hC : ∀ c : UInt8, (w.alloc (.cells O 108)).cell? ⟨w.heap.size, c.toNat, none⟩ = some (.int .u8 ((kindOf c).toNat : Int)) := fun c => kcell (heap_alloc_new w _) hO c
  have HC := Lib.hid hC
  have HM := Lib.hid hm
  have HT := Lib.hid ht
  clear hC hm ht
  go_enter Try.func78, Try.ntmps78
  go_wp2_with fail
  obtain ⟨W, hW⟩ : ∃ W, w.alloc (.cells O 108) = W := ⟨_, rfl⟩
  rw [hW]
  have HBW : Hid (Below w.heap.size w W) := Lib.hid (by rw [← hW]; exact stpA (Below.refl _ _) _)
  have HC2 : Hid (∀ c : UInt8, W.cell? ⟨w.heap.size, c.toNat, none⟩ = some (.int .u8 ((kindOf c).toNat : Int))) := by rw [← hW]; exact HC
  clear hW HC
  go_loopg [5] s.size (fun gg i wr => ∃ k : Nat, k + gg = s.size ∧ i = .int .i64 k ∧ W = wr ∧ (s.data.toList.take k).all blk = true)
  case atStart => exact ⟨0, by omega, rfl, rfl, rfl⟩
  case round =>
    obtain ⟨k, hk, rfl, rfl, hall⟩ := hrel
    have HALL := Lib.hid hall
    have hMM := HM.out
    clear hall
    have bk0 : (0 : Int) ≤ (k : Int) := by omega
    by_cases hlt : k < s.size
    · obtain ⟨c, hc, hat⟩ := byte_at s k hlt
      have bk : (0 : Int) ≤ (k : Int) ∧ (k : Int) < (s.size : Int) := by omega
      have hcl := c.toNat_lt
      have b1 : (0 : Int) ≤ (c.toNat : Int) ∧ (c.toNat : Int) < 256 := by omega
      have c1 := HC2.out c
      cases hb : blk c with
      | true =>
        have q1 := kind_blk c true hb
        have HN : Hid ((s.data.toList.take (k + 1)).all blk = true) := all_takeT blk hc HALL.out hb
        clear hb hc
        go_wp2_with fail
        go_roundg (gk - 1)
        case rel => exact ⟨k + 1, by omega, by go_num, rfl, HN.out⟩
        case measure => omega
      | false =>
        have q1 := kind_blk c false hb
        have HF : Hid (∀ c', s.data.toList[k]? = some c' → blk c' = false) := Lib.hid (fun c' h' => by rw [hc] at h'; cases h'; exact hb)
        clear hb hc
        go_wp2_with fail
        go_loopg [6] s.size (fun gg i wr => ∃ m : Nat, m = gg ∧ k ≤ m ∧ m ≤ s.size ∧ i = .int .i64 m ∧ W = wr ∧ (s.data.toList.drop m).all blk = true)
        case atStart => exact ⟨s.size, rfl, by omega, Nat.le_refl _, rfl, rfl, by rw [List.drop_of_length_le (by rw [ba_len7]; exact Nat.le_refl _)]; rfl⟩
        case round =>
          obtain ⟨m, hm, hkm, hms, rfl, rfl, hdr⟩ := hrel
          have HDR := Lib.hid hdr
          have HMG := Lib.hid hm
          clear hdr hm
          by_cases hlt2 : k < m
          · obtain ⟨j, rfl⟩ : ∃ j, m = j + 1 := ⟨m - 1, by omega⟩
            obtain ⟨c, hc, hat⟩ := byte_at s j (by omega)
            have bj : (0 : Int) ≤ (j : Int) ∧ (j : Int) < (s.size : Int) := by omega
            have bkm : (k : Int) < ((j + 1 : Nat) : Int) := by omega
            have hcl := c.toNat_lt
            have b1 : (0 : Int) ≤ (c.toNat : Int) ∧ (c.toNat : Int) < 256 := by omega
            have c1 := HC2.out c
            have s1 : IntKind.i64.wrap (((j + 1 : Nat) : Int) - 1) = (j : Int) := by rw [IntWalk.i64_in _ (by omega)]; omega
            obtain ⟨M, hM⟩ : ∃ M, j + 1 = M := ⟨_, rfl⟩
            rw [hM] at s1 bkm hms HDR HMG
            rw [hM]
            have HMJ := Lib.hid hM
            clear hM hkm
            cases hb : blk c with
            | true =>
              have q1 := kind_blk c true hb
              have HN : Hid ((s.data.toList.drop j).all blk = true) := by
                show _ = _
                rw [drop_next hc, List.all_cons, hb, HMJ.out, HDR.out]
                rfl
              clear hb hc
              go_wp2_with fail
              go_roundg (gk - 1)
              case rel => exact ⟨j, by have := HMJ.out; have := HMG.out; omega, by have := HMJ.out; omega, by have := HMJ.out; omega, by go_num, rfl, HN.out⟩
              case measure => have := HMJ.out; have := HMG.out; omega
            | false =>
              have q1 := kind_blk c false hb
              have HX : Hid (s.extract k M = t) := by
                show _ = _
                rw [← HT.out]
                have hmj := HMJ.out
                refine Eq.symm ?_
                exact trim_cut s k M (by omega) (by omega) HALL.out HF.out HDR.out (fun c' h' => by
                  rw [show M - 1 = j by omega, hc] at h'
                  cases h'
                  exact hb)
              have z1 : (0 : Int) ≤ (k : Int) := by omega
              have z2 : (k : Int) ≤ (M : Int) := by omega
              have z3 : (M : Int) ≤ (s.size : Int) := by omega
              have hX := HX.out
              have hts : t.size ≤ 1000000 := by rw [← hX, ByteArray.size_extract]; omega
              have HTS := Lib.hid hts
              clear hb hc hts
              go_wp2_with (first
                | (go_at_call 51; (with_reducible refine (clone7 t W HTS.out).mono ?_); rintro e w2 ⟨rfl, hb2⟩)
                | fail)
              go_ret
              exact ⟨rfl, stp HBW.out hb2⟩
          · obtain rfl : k = m := by omega
            have HX : Hid (s.extract k k = t) := by
              show _ = _
              rw [← HT.out]
              exact (trim_none s k (by omega) HALL.out HDR.out).symm
            have z1 : (0 : Int) ≤ (k : Int) := by omega
            have z3 : (k : Int) ≤ (s.size : Int) := by omega
            obtain rfl : ByteArray.empty = t := by rw [← HX.out, extract_mid, Nat.sub_self, List.take_zero]; rfl
            clear HX
            go_wp2_with (first
              | (go_at_call 51; (with_reducible refine (clone7 ByteArray.empty W (by decide)).mono ?_); rintro e w2 ⟨rfl, hb2⟩)
              | fail)
            go_ret
            exact ⟨rfl, stp HBW.out hb2⟩
    · have HF : Hid (∀ c', s.data.toList[k]? = some c' → blk c' = false) := Lib.hid (fun c' h' => by
        have := (List.getElem?_eq_some_iff.1 h').1
        rw [ba_len7] at this
        omega)
      go_wp2_with fail
      go_loopg [6] s.size (fun gg i wr => ∃ m : Nat, m = gg ∧ k ≤ m ∧ m ≤ s.size ∧ i = .int .i64 m ∧ W = wr ∧ (s.data.toList.drop m).all blk = true)
      case atStart => exact ⟨s.size, rfl, by omega, Nat.le_refl _, rfl, rfl, by rw [List.drop_of_length_le (by rw [ba_len7]; exact Nat.le_refl _)]; rfl⟩
      case round =>
        obtain ⟨m, hm, hkm, hms, rfl, rfl, hdr⟩ := hrel
        have HDR := Lib.hid hdr
        have HMG := Lib.hid hm
        clear hdr hm
        by_cases hlt2 : k < m
        · obtain ⟨j, rfl⟩ : ∃ j, m = j + 1 := ⟨m - 1, by omega⟩
          obtain ⟨c, hc, hat⟩ := byte_at s j (by omega)
          have bj : (0 : Int) ≤ (j : Int) ∧ (j : Int) < (s.size : Int) := by omega
          have bkm : (k : Int) < ((j + 1 : Nat) : Int) := by omega
          have hcl := c.toNat_lt
          have b1 : (0 : Int) ≤ (c.toNat : Int) ∧ (c.toNat : Int) < 256 := by omega
          have c1 := HC2.out c
          have s1 : IntKind.i64.wrap (((j + 1 : Nat) : Int) - 1) = (j : Int) := by rw [IntWalk.i64_in _ (by omega)]; omega
          obtain ⟨M, hM⟩ : ∃ M, j + 1 = M := ⟨_, rfl⟩
          rw [hM] at s1 bkm hms HDR HMG
          rw [hM]
          have HMJ := Lib.hid hM
          clear hM hkm
          cases hb : blk c with
          | true =>
            have q1 := kind_blk c true hb
            have HN : Hid ((s.data.toList.drop j).all blk = true) := by
              show _ = _
              rw [drop_next hc, List.all_cons, hb, HMJ.out, HDR.out]
              rfl
            clear hb hc
            go_wp2_with fail
            go_roundg (gk - 1)
            case rel => exact ⟨j, by have := HMJ.out; have := HMG.out; omega, by have := HMJ.out; omega, by have := HMJ.out; omega, by go_num, rfl, HN.out⟩
            case measure => have := HMJ.out; have := HMG.out; omega
          | false =>
            have q1 := kind_blk c false hb
            have HX : Hid (s.extract k M = t) := by
              show _ = _
              rw [← HT.out]
              have hmj := HMJ.out
              refine Eq.symm ?_
              exact trim_cut s k M (by omega) (by omega) HALL.out HF.out HDR.out (fun c' h' => by
                rw [show M - 1 = j by omega, hc] at h'
                cases h'
                exact hb)
            have z1 : (0 : Int) ≤ (k : Int) := by omega
            have z2 : (k : Int) ≤ (M : Int) := by omega
            have z3 : (M : Int) ≤ (s.size : Int) := by omega
            have hX := HX.out
            have hts : t.size ≤ 1000000 := by rw [← hX, ByteArray.size_extract]; omega
            have HTS := Lib.hid hts
            clear hb hc hts
            go_wp2_with (first
              | (go_at_call 51; (with_reducible refine (clone7 t W HTS.out).mono ?_); rintro e w2 ⟨rfl, hb2⟩)
              | fail)
            go_ret
            exact ⟨rfl, stp HBW.out hb2⟩
        · obtain rfl : k = m := by omega
          have HX : Hid (s.extract k k = t) := by
            show _ = _
            rw [← HT.out]
            exact (trim_none s k (by omega) HALL.out HDR.out).symm
          have z1 : (0 : Int) ≤ (k : Int) := by omega
          have z3 : (k : Int) ≤ (s.size : Int) := by omega
          obtain rfl : ByteArray.empty = t := by rw [← HX.out, extract_mid, Nat.sub_self, List.take_zero]; rfl
          clear HX
          go_wp2_with (first
            | (go_at_call 51; (with_reducible refine (clone7 ByteArray.empty W (by decide)).mono ?_); rintro e w2 ⟨rfl, hb2⟩)
            | fail)
          go_ret
          exact ⟨rfl, stp HBW.out hb2⟩
set_option maxRecDepth 100000 in
theorem trim7 (s t : ByteArray) (w : World) (h0 : s.size ≤ 1000000) (h1 : trimS s = t) :
    Calls Try.prog 58 #[.string s] w fun e w' => e = .returned (.string t) ∧ Below w.heap.size w w' := by
  obtain ⟨O, hO⟩ : ∃ O, (kd.map encK).toArray = O := ⟨_, rfl⟩
  have HO := Lib.hid hO
  have H0 := Lib.hid h0
  have H1 := Lib.hid h1
  clear hO h0 h1
  go_enter Try.func58, Try.ntmps58
  go_wp2_with (first
    | (go_at_call 75; (with_reducible refine (kinds7 O w HO.out).mono ?_); rintro e w1 ⟨rfl, hb1⟩)
    | (go_at_call 78; (with_reducible refine (trimK s t O w1 HO.out H0.out H1.out).mono ?_); rintro e w2 ⟨rfl, hb2⟩)
    | fail)
  go_ret
  exact ⟨rfl, stp hb1 hb2⟩
end Hx
end Go.Proofs.Ytfdhogaknlabkaa
namespace Go.Proofs.Ytfdhogaknlabkaa
open Go.RowKit
namespace Hx
open As
set_option linter.unusedVariables false
def Rw (g : Nat) (l : List UInt8) (w : World) : Prop := ∃ (cs : Array Value) (fr : Nat × Nat), w.heap[g]? = some (.cells cs 5 fr) ∧ l.length ≤ fr.1 ∧ (∀ (j : Nat) (c : UInt8), l[j]? = some c → cs[j]? = some (Value.int .u8 c.toNat))
theorem Rw.lt {g : Nat} {l : List UInt8} {w : World} (h : Rw g l w) : g < w.heap.size := by
  obtain ⟨cs, fr, h1, _⟩ := h
  exact lt_of_block h1
theorem Rw.cell {g k : Nat} {l : List UInt8} {c : UInt8} {w : World} (h : Rw g l w) (hc : l[k]? = some c) : w.cell? ⟨g, k, none⟩ = some (.int .u8 c.toNat) := by
  obtain ⟨cs, fr, h1, _, h3⟩ := h
  rw [cell_of_row w g k cs _ fr h1]
  exact h3 k c hc
theorem Rw.free {g k : Nat} {l : List UInt8} {w : World} (h : Rw g l w) (hk : k < l.length) : w.frozen? ⟨g, k, none⟩ = false := by
  obtain ⟨cs, fr, h1, h2, _⟩ := h
  obtain ⟨lo, hi⟩ := fr
  simp only at h2
  simp [World.frozen?, h1]
  omega
theorem Rw.rd {g : Nat} {l : List UInt8} {w : World} (h : Rw g l w) : RdA w w.heap.size (some ⟨g, 0, none⟩) l := by
  intro hp
  refine ⟨g, 0, rfl, h.lt, fun j hj => ?_⟩
  rw [Nat.zero_add]
  exact h.cell (List.getElem?_eq_getElem hj)
theorem Rw.put {g k : Nat} {l : List UInt8} {x : UInt8} {w : World} (h : Rw g l w) : Rw g (l.set k x) (w.setCell ⟨g, k, none⟩ (.int .u8 x.toNat)) := by
  obtain ⟨cs, fr, h1, h2, h3⟩ := h
  refine ⟨_, fr, Lib.heap_setCell_same h1 _, by rw [List.length_set]; exact h2, fun j c hj => ?_⟩
  rw [List.getElem?_set] at hj
  rw [Array.getElem?_setIfInBounds]
  by_cases hkj : k = j
  · subst hkj
    rw [if_pos rfl] at hj ⊢
    by_cases hk : k < l.length
    · rw [if_pos hk] at hj
      have hs := h3 k _ (List.getElem?_eq_getElem hk)
      have : k < cs.size := (Array.getElem?_eq_some_iff.1 hs).1
      rw [if_pos this]
      cases hj
      rfl
    · rw [if_neg hk] at hj
      cases hj
  · rw [if_neg hkj] at hj ⊢
    exact h3 j c hj
theorem str_row (l : List UInt8) (s : ByteArray) (hs : s.data.toList = l) (w : World) : ∃ C WB, (convert 9 58 (.string s)).run Try.prog w = .ok (.slice (some ⟨w.heap.size, 0, none⟩) s.size C) WB ∧ Rw w.heap.size l WB ∧ Below w.heap.size w WB := by
  have h := Lib.run_convert_string_bytes (P := Try.prog) w 9 58 5 s Try.underlying9 Try.underlying58 Try.underlying5
  refine ⟨_, _, h, ⟨_, _, Lib.bytesWorld_at_new w _ s, ?_, fun j c hj => ?_⟩, ⟨rfl, rfl, rfl, by rw [Lib.bytesWorld_size]; omega, fun k hk => Lib.bytesWorld_at_old w _ _ k hk⟩⟩
  · subst hs
    show _ ≤ (Lib.bytesCells w _ s).size
    simp [Lib.bytesCells]
  · subst hs
    obtain ⟨hk, e⟩ := List.getElem?_eq_some_iff.1 hj
    have hk2 : j < s.data.size := by simpa using hk
    unfold Lib.bytesCells
    rw [Array.getElem?_append_left (by simpa using hk2), Array.getElem?_map]
    have : s.data[j]? = some c := by rw [← Array.getElem?_toList]; exact hj
    rw [this]
    rfl
theorem heap_lt7 {a : World} {k : Nat} {o : Obj} (h : a.heap[k]? = some o) : k < a.heap.size := (Array.getElem?_eq_some_iff.1 h).1
theorem kind_grt (c : UInt8) (b : Bool) (h : (decide (65 ≤ c.toNat) && decide (c.toNat ≤ 90)) = b) : (((kindOf c).toNat : Int) == 3) = b := by
  rw [← h, ← kind_great c, show (((kindOf c).toNat : Int) == 3) = decide (((kindOf c).toNat : Int) = 3) from rfl, decide_eq_decide]
  constructor
  · intro e
    exact UInt8.toNat_inj.1 (by show _ = 3; omega)
  · intro e
    rw [e]
    rfl
/-- So many bytes turned. -/
def lowk (l : List UInt8) (k : Nat) : List UInt8 := lows (l.take k) ++ l.drop k
theorem lowk_len (l : List UInt8) (k : Nat) : (lowk l k).length = l.length := by
  unfold lowk
  rw [List.length_append, lows_length, List.length_take, List.length_drop]
  omega
theorem lowk_at {l : List UInt8} {k : Nat} {c : UInt8} (h : l[k]? = some c) : (lowk l k)[k]? = some c := by
  have hk := (List.getElem?_eq_some_iff.1 h).1
  unfold lowk
  rw [List.getElem?_append_right (by rw [lows_length, List.length_take]; omega), lows_length, List.length_take, Nat.min_eq_left (by omega), Nat.sub_self, List.getElem?_drop, Nat.add_zero]
  exact h
theorem lowk_next {l : List UInt8} {k : Nat} {c : UInt8} (h : l[k]? = some c) : lowk l (k + 1) = (lowk l k).set k (low c) := by
  have hk := (List.getElem?_eq_some_iff.1 h).1
  unfold lowk
  rw [take_next h, lows_snoc, drop_next h, List.set_append_right _ _ (by rw [lows_length, List.length_take]; omega), lows_length, List.length_take, Nat.min_eq_left (by omega), Nat.sub_self, List.set_cons_zero]
  simp
theorem lowk_same {l : List UInt8} {k : Nat} {c : UInt8} (h : l[k]? = some c) (hc : low c = c) : lowk l (k + 1) = lowk l k := by
  rw [lowk_next h, hc]
  have h2 := lowk_at h
  obtain ⟨hk, e⟩ := List.getElem?_eq_some_iff.1 h2
  conv => lhs; rw [← e]
  exact List.set_getElem_self hk
set_option maxHeartbeats 4000000 in
set_option maxRecDepth 100000 in
theorem lower7 (s t : ByteArray) (w : World) (h0 : s.size ≤ 1000000) (h1 : lowS s = t) :
    Calls Try.prog 53 #[.string s] w fun e w' => e = .returned (.string t) ∧ Below w.heap.size w w' := by
  have hz := zero_256
  obtain ⟨O, hO⟩ : ∃ O, (kd.map encK).toArray = O := ⟨_, rfl⟩
  have HO := Lib.hid hO
  have HOS : Hid (O.size = 256) := by show _ = _; rw [← hO]; simp [kd_length]
  have HOC : Hid (O.all (·.oneCell') = true) := by show _ = _; rw [← hO]; simp [encK_one]
  obtain ⟨l, hl⟩ : ∃ l, s.data.toList = l := ⟨_, rfl⟩
  have HL := Lib.hid hl
  have HSTR : Hid (∀ W : World, ∃ C WB, (convert 9 58 (.string s)).run Try.prog W = .ok (.slice (some ⟨W.heap.size, 0, none⟩) s.size C) WB ∧ Rw W.heap.size l WB ∧ Below W.heap.size W WB) := Lib.hid (fun W => str_row l s hl W)
  have H0 := Lib.hid h0
  have H1 := Lib.hid h1
  clear hO h0 h1 hl
  go_enter Try.func53, Try.ntmps53
  go_wp2_with (first
    | (go_at_call 75; (with_reducible refine (kinds7 O w HO.out).mono ?_); rintro e w1 ⟨rfl, hb1⟩; have HB1 := Lib.hid hb1; clear hb1)
    | (refine wpList_store_row rfl _ _ _ rfl w1.heap.size O rfl rfl 108 zero256 (heap_alloc_new w1 _) (by rw [size256, HOS.out]) (by rw [HOS.out]; rfl) HOC.out ?_; obtain ⟨W, hW, hrow, hbW, hle, hWs⟩ := opnK w w1 O HB1.out; rw [hW]; obtain ⟨C, WB, hconv, hrw, hbB⟩ := HSTR.out W; have HW := Lib.hid hW; have HROW := Lib.hid hrow; have HBW := Lib.hid hbW; have HLE := Lib.hid hle; have HWS := Lib.hid hWs; have HRW := Lib.hid hrw; have HBB := Lib.hid hbB; clear hW hrow hbW hle hWs hrw hbB)
    | fail)
  have hbw0 : Below w.heap.size w WB := HBW.out.trans (HBB.out.mono HBW.out.size)
  have hro0 : WB.heap[w1.heap.size]? = some (.cells O 108 (0, 0)) := (HBB.out.block _ (heap_lt7 HROW.out)).trans HROW.out
  have hgs : w1.heap.size < W.heap.size := heap_lt7 HROW.out
  have hle := HLE.out
  have hws : w.heap.size ≤ W.heap.size := by omega
  obtain ⟨g, hg⟩ : ∃ g, W.heap.size = g := ⟨_, rfl⟩
  obtain ⟨a, ha⟩ : ∃ a, w1.heap.size = a := ⟨_, rfl⟩
  have hrw0 := HRW.out
  have hl0 : lowk l 0 = l := by unfold lowk; rw [List.take_zero]; rfl
  rw [← hl0] at hrw0
  have hlen : l.length = s.size := by rw [← HL.out, ba_len7]
  rw [hg] at hgs hws hrw0 ⊢
  rw [ha] at hgs hro0 hle ⊢
  have HW0 := Lib.hid hbw0
  have HR0 := Lib.hid hro0
  have HRW0 := Lib.hid hrw0
  have HGS := Lib.hid hgs
  have HWSG := Lib.hid hws
  have HLEN := Lib.hid hlen
  clear hbw0 hro0 hgs hws hrw0 hl0 hlen hle hg ha hconv HW HROW HBW HLE HWS HRW HBB HSTR HB1
  go_loopg [5, 6, 12] s.size (fun gg x y i wr => ∃ k : Nat, k + gg = s.size ∧ i = .int .i64 k ∧ Rw g (lowk l k) wr ∧ wr.heap[a]? = some (.cells O 108 (0, 0)) ∧ Below w.heap.size w wr)
  case atStart => exact ⟨0, by omega, rfl, HRW0.out, HR0.out, HW0.out⟩
  case round =>
    obtain ⟨k, hk, rfl, hrw, hro, hbw⟩ := hrel
    have HRW := Lib.hid hrw
    have HRO := Lib.hid hro
    have HBW := Lib.hid hbw
    have hMM := H0.out
    clear HRW0 HR0 HW0
    by_cases hlt : k < s.size
    · obtain ⟨c, hc⟩ : ∃ c, l[k]? = some c := ⟨_, List.getElem?_eq_getElem (by have := HLEN.out; omega)⟩
      have hcell := hrw.cell (lowk_at hc)
      have hfree := hrw.free (k := k) (by rw [lowk_len, HLEN.out]; exact hlt)
      have hkc := kcell hro HO.out c
      have bk : (0 : Int) ≤ (k : Int) ∧ (k : Int) < (s.size : Int) := by omega
      have b1 : (0 : Int) ≤ (c.toNat : Int) ∧ (c.toNat : Int) < 256 := by have := c.toNat_lt; omega
      cases hb : (decide (65 ≤ c.toNat) && decide (c.toNat ≤ 90)) with
      | true =>
        have q1 := kind_grt c true hb
        rw [Bool.and_eq_true, decide_eq_true_eq, decide_eq_true_eq] at hb
        obtain ⟨x, hx⟩ : ∃ x, low c = x := ⟨_, rfl⟩
        have hxn := low_nat c
        rw [hx, if_pos hb] at hxn
        have g1 : IntKind.u8.wrap ((c.toNat : Int) + 32) = (x.toNat : Int) := by rw [IntWalk.u8_in _ (by omega)]; omega
        have HN : Hid (Rw g (lowk l (k + 1)) (wr.setCell ⟨g, k, none⟩ (.int .u8 x.toNat))) := by
          show Rw _ _ _
          rw [lowk_next hc, hx]
          exact HRW.out.put
        have HNO : Hid ((wr.setCell ⟨g, k, none⟩ (.int .u8 x.toNat)).heap[a]? = some (.cells O 108 (0, 0))) := by
          have := HGS.out
          exact (heap_setCell_other _ _ _ _ (by simp; omega)).trans HRO.out
        have HNB : Hid (Below w.heap.size w (wr.setCell ⟨g, k, none⟩ (.int .u8 x.toNat))) := Lib.hid (HBW.out.setCell (by exact HWSG.out) _)
        clear hb hx hxn hc hrw hro hbw
        go_wp2_with fail
        go_roundg (gk - 1)
        case rel => exact ⟨k + 1, by omega, by go_num, HN.out, HNO.out, HNB.out⟩
        case measure => omega
      | false =>
        have q1 := kind_grt c false hb
        have HN : Hid (Rw g (lowk l (k + 1)) wr) := by
          show Rw _ _ _
          rw [lowk_same hc (by
            unfold low
            rw [if_neg]
            intro h
            simp [h.1, h.2] at hb)]
          exact HRW.out
        clear hb hc hrw hro hbw
        go_wp2_with fail
        go_roundg (gk - 1)
        case rel => exact ⟨k + 1, by omega, by go_num, HN.out, HRO.out, HBW.out⟩
        case measure => omega
    · obtain rfl : k = s.size := by omega
      have hrd := hrw.rd
      have hend : lowk l s.size = lows l := by
        unfold lowk
        rw [List.take_of_length_le (by rw [HLEN.out]; exact Nat.le_refl _), List.drop_of_length_le (by rw [HLEN.out]; exact Nat.le_refl _), List.append_nil]
      rw [hend] at hrd
      have cv := conv_str (P := Try.prog) (n := s.size) (c := C) hrd (by rw [lows_length, HLEN.out]) Try.underlying58 Try.underlying5 Try.underlying9
      have ht2 : (⟨(lows l).toArray⟩ : ByteArray) = t := by rw [← HL.out]; exact H1.out
      rw [ht2] at cv
      clear hrw hro hbw hrd hend ht2
      go_wp2_with fail
      go_ret
      exact ⟨rfl, HBW.out⟩
theorem low_seq (a b : ByteArray) : (a.toList == b.toList) = decide (a = b) := seq_b7 a b
set_option maxRecDepth 100000 in
theorem same7 (s u : ByteArray) (b : Bool) (w : World) (h0 : s.size ≤ 1000000) (h1 : u.size ≤ 1000000) (h2 : decide (lowS s = lowS u) = b) :
    Calls Try.prog 32 #[.string s, .string u] w fun e w' => e = .returned (.bool b) ∧ Below w.heap.size w w' := by
  obtain ⟨x, hx⟩ : ∃ x, lowS s = x := ⟨_, rfl⟩
  obtain ⟨y, hy⟩ : ∃ y, lowS u = y := ⟨_, rfl⟩
  have H0 := Lib.hid h0
  have H1 := Lib.hid h1
  have HX := Lib.hid hx
  have HY := Lib.hid hy
  have hq : (x.toList == y.toList) = b := by rw [seq_b7, ← hx, ← hy]; exact h2
  clear h0 h1 h2 hx hy
  go_enter Try.func32, Try.ntmps32
  go_wp2_with (first
    | (go_at_call 53; (with_reducible refine (lower7 s x w H0.out HX.out).mono ?_); rintro e w1 ⟨rfl, hb1⟩)
    | (go_at_call 53; (with_reducible refine (lower7 u y w1 H1.out HY.out).mono ?_); rintro e w2 ⟨rfl, hb2⟩)
    | fail)
  go_ret
  exact ⟨rfl, stp hb1 hb2⟩
end Hx
end Go.Proofs.Ytfdhogaknlabkaa
namespace Go.Proofs.Ytfdhogaknlabkaa
open Go.RowKit
namespace Hx
open As
set_option linter.unusedVariables false
/-- Where the first comma stands: so many bytes ahead of it, or none. -/
def comma (l : List UInt8) : Int := Lib.indexByte l 44
theorem comma_cut (l : List UInt8) : (comma l = -1 ∧ cut l = [l]) ∨ ∃ i : Nat, comma l = (i : Int) ∧ i < l.length ∧ cut l = l.take i :: cut (l.drop (i + 1)) := by
  have hge := Lib.indexByte_ge l 44
  by_cases h : Lib.indexByte l 44 = -1
  · left
    refine ⟨h, ?_⟩
    have hn : noComma l := by
      intro c hc e
      obtain ⟨k, hk⟩ := List.mem_iff_getElem?.1 hc
      refine Lib.indexByte_none h k ?_
      rw [hk]
      congr 1
      exact UInt8.toNat_inj.1 e
    have := cutF_one l [] hn
    rw [List.nil_append] at this
    exact this
  · right
    obtain ⟨i, hi⟩ : ∃ i : Nat, Lib.indexByte l 44 = (i : Int) := ⟨(Lib.indexByte l 44).toNat, by omega⟩
    obtain ⟨h1, h2⟩ := Lib.indexByte_some hi
    obtain ⟨hlt, hc⟩ := List.getElem?_eq_some_iff.1 h1
    refine ⟨i, hi, hlt, ?_⟩
    have e : l = l.take i ++ 44 :: l.drop (i + 1) := by
      conv => lhs; rw [← List.take_append_drop i l, drop_next h1]
    have hn : noComma (l.take i) := by
      intro c hc e
      obtain ⟨k, hk⟩ := List.mem_iff_getElem?.1 hc
      rw [List.getElem?_take] at hk
      split at hk
      · refine h2 k (by assumption) ?_
        rw [hk]
        congr 1
        exact UInt8.toNat_inj.1 e
      · cases hk
    conv => lhs; rw [e]
    unfold cut
    rw [cutF_app, cutF_one _ _ hn]
    rfl
theorem ib7 (s : ByteArray) (q : Int) (w : World) (h : comma s.data.toList = q) :
    Calls Try.prog 86 #[.string s, .int .u8 ↑((⟨#[44]⟩ : ByteArray)[0]'(by decide)).toNat] w fun e w' => e = .returned (.int .i64 q) ∧ w = w' := by
  refine (Try.stringslite_IndexByte s _ w).mono fun e w' ⟨h1, h2⟩ => ⟨?_, h2.symm⟩
  rw [h1, ← h]
  rfl
set_option maxRecDepth 100000 in
theorem index7 (s : ByteArray) (q : Int) (w : World) (h : comma s.data.toList = q) :
    Calls Try.prog 84 #[.string s, .string ⟨#[44]⟩] w fun e w' => e = .returned (.int .i64 q) ∧ w = w' := by
  have H := Lib.hid h
  cases hq : ([44] == s.toList) with
  | true =>
    obtain rfl : (0 : Int) = q := by
      have e : s.data.toList = [44] := by
        rw [beq_iff_eq, ByteArray.toList_eq] at hq
        exact hq.symm
      rw [← h, e]
      rfl
    clear h
    go_enter Try.func84, Try.ntmps84
    go_wp2_with fail
    go_ret
    exact ⟨rfl, rfl⟩
  | false =>
    clear h
    go_enter Try.func84, Try.ntmps84
    go_wp2_with (first
      | (go_at_call 86; (with_reducible refine (ib7 s q w H.out).mono ?_); rintro e w1 ⟨rfl, rfl⟩)
      | fail)
    go_ret
    exact ⟨rfl, rfl⟩
/-- What Cut answers. -/
def CutTo (p r : ByteArray) (b : Bool) (w : World) (e : Ending) (w' : World) : Prop := e = .returned (.tuple #[.string p, .string r, .bool b]) ∧ Below w.heap.size w w'
set_option maxRecDepth 100000 in
theorem slcut_no (s : ByteArray) (w : World) (h : comma s.data.toList = -1) :
    Calls Try.prog 76 #[.string s, .string ⟨#[44]⟩] w (CutTo s ⟨#[]⟩ false w) := by
  have H := Lib.hid h
  clear h
  go_enter Try.func76, Try.ntmps76
  go_wp2_with (first
    | (go_at_call 84; (with_reducible refine (index7 s (-1) w H.out).mono ?_); rintro e w1 ⟨rfl, rfl⟩)
    | fail)
  go_ret3
  exact ⟨rfl, Below.refl _ _⟩
set_option maxRecDepth 100000 in
theorem slcut_yes (s p r : ByteArray) (i j n : Nat) (w : World) (hm : s.size ≤ 1000000) (h : comma s.data.toList = (i : Int)) (hi : i < s.size) (hj : i + 1 = j) (hn : s.size = n) (hp : s.extract 0 i = p) (hr : s.extract j n = r) :
    Calls Try.prog 76 #[.string s, .string ⟨#[44]⟩] w (CutTo p r true w) := by
  have H := Lib.hid h
  have b1 : (0 : Int) ≤ (i : Int) ∧ (i : Int) ≤ (s.size : Int) := by omega
  have b2 : (0 : Int) ≤ (j : Int) ∧ (j : Int) ≤ (s.size : Int) := by omega
  have s1 : IntKind.i64.wrap ((i : Int) + 1) = (j : Int) := by rw [IntWalk.i64_in _ (by omega)]; omega
  have d1 : decide ((0 : Int) ≤ (i : Int)) = true := by simp
  rw [← hn] at hr
  clear h hm hi hj hn
  go_enter Try.func76, Try.ntmps76
  go_wp2_with (first
    | (go_at_call 84; (with_reducible refine (index7 s (i : Int) w H.out).mono ?_); rintro e w1 ⟨rfl, rfl⟩)
    | fail)
  go_region
  go_wp2_with fail
  go_ret3
  exact ⟨rfl, (show Below w.heap.size w w.drew from ⟨rfl, rfl, rfl, Nat.le_refl _, fun _ _ => rfl⟩)⟩
set_option maxRecDepth 100000 in
theorem cut_no (s : ByteArray) (w : World) (h : comma s.data.toList = -1) :
    Calls Try.prog 55 #[.string s, .string ⟨#[44]⟩] w (CutTo s ⟨#[]⟩ false w) := by
  have H := Lib.hid h
  clear h
  go_enter Try.func55, Try.ntmps55
  go_wp2_with (first
    | (go_at_call 76; (with_reducible refine (slcut_no s w H.out).mono ?_); rintro e w1 ⟨rfl, hb1⟩)
    | fail)
  go_ret3
  exact ⟨rfl, hb1⟩
set_option maxRecDepth 100000 in
theorem cut_yes (s p r : ByteArray) (i j n : Nat) (w : World) (hm : s.size ≤ 1000000) (h : comma s.data.toList = (i : Int)) (hi : i < s.size) (hj : i + 1 = j) (hn : s.size = n) (hp : s.extract 0 i = p) (hr : s.extract j n = r) :
    Calls Try.prog 55 #[.string s, .string ⟨#[44]⟩] w (CutTo p r true w) := by
  have H : Hid (Calls Try.prog 76 #[.string s, .string ⟨#[44]⟩] w (CutTo p r true w)) := slcut_yes s p r i j n w hm h hi hj hn hp hr
  clear hm h hi hj hn hp hr
  go_enter Try.func55, Try.ntmps55
  go_wp2_with (first
    | (go_at_call 76; (with_reducible refine (H.out).mono ?_); rintro e w1 ⟨rfl, hb1⟩)
    | fail)
  go_ret3
  exact ⟨rfl, hb1⟩
end Hx
end Go.Proofs.Ytfdhogaknlabkaa
namespace Go.Proofs.Ytfdhogaknlabkaa
open Go.RowKit Go.Shelf
namespace Hx
open As
set_option linter.unusedVariables false
attribute [local go_sem] Oper.semAt_some
/-- A part. -/
abbrev Pt := { p : ByteArray // p.size ≤ 1000000 }
/-- A list's parts as they stand in it. -/
def oneT (p : List UInt8) : List (List UInt8) := if trim p = [] then [] else [trim p]
def cutT (l : List UInt8) : List (List UInt8) := (cut l).flatMap oneT
theorem cutT_low (l : List UInt8) : (cutT l).map lows = parts l := by
  unfold cutT parts
  induction cut l with
  | nil => rfl
  | cons p ps ih =>
    rw [List.flatMap_cons, List.map_append, ih, List.filterMap_cons]
    unfold oneT
    by_cases h : trim p = []
    · rw [if_pos h, part_none h]
      rfl
    · rw [if_neg h, part_some h]
      rfl
theorem parts_any (s : ByteArray) (w : World) :
    Calls Try.prog 85 #[.string s] w fun e w' => e = .returned (.func (.func 90) #[] #[.pointer (some ⟨w.heap.size, 0, none⟩)]) ∧ w' = w.alloc (.cells #[.string s] 9) := by
  have hmf : ∀ (fn : Fn) (first cap : Array Value) (w : World), (Instr.makeFunc fn first cap).run Try.prog w = .ok (.func fn first cap) w := fun _ _ _ _ => rfl
  go_enter Try.func85, Try.ntmps85
  go_wp2
  go_ret
  exact ⟨rfl, rfl⟩
/-- Cut at the first comma, or not. -/
theorem cut_any (r : ByteArray) (hm : r.size ≤ 1000000) : ∃ (p r' : ByteArray) (b : Bool), (∀ w, Calls Try.prog 55 #[.string r, .string ⟨#[44]⟩] w (CutTo p r' b w)) ∧ p.size ≤ r.size ∧ r'.size ≤ r.size ∧ (b = true → r'.size < r.size) ∧
    cutT r.data.toList = oneT p.data.toList ++ (if b = true then cutT r'.data.toList else []) := by
  have hl := ba_len7 r
  rcases comma_cut r.data.toList with ⟨h1, h2⟩ | ⟨i, h1, h2, h3⟩
  · refine ⟨r, ⟨#[]⟩, false, fun w => cut_no r w h1, Nat.le_refl _, Nat.zero_le _, (by simp), ?_⟩
    unfold cutT
    rw [h2]
    simp
  · refine ⟨r.extract 0 i, r.extract (i + 1) r.size, true, fun w => cut_yes r _ _ i (i + 1) r.size w hm h1 (by omega) rfl rfl rfl rfl, by rw [ByteArray.size_extract]; omega, by rw [ByteArray.size_extract]; omega, fun _ => by rw [ByteArray.size_extract]; omega, ?_⟩
    rw [extract_take7, extract_drop7]
    unfold cutT
    rw [h3]
    simp
theorem trimS_size (p : ByteArray) : (trimS p).size ≤ p.size := by
  have := trim_len p.data.toList
  rw [ba_len7] at this
  exact this
theorem oneT_nil {p : ByteArray} (h : (trimS p).size = 0) : oneT p.data.toList = [] := by
  unfold oneT
  rw [if_pos]
  exact List.eq_nil_of_length_eq_zero h
theorem oneT_one {p : ByteArray} (h : (trimS p).size ≠ 0) : oneT p.data.toList = [(trimS p).data.toList] := by
  unfold oneT
  rw [if_neg]
  · rfl
  · intro e
    apply h
    show (trim p.data.toList).length = 0
    rw [e]
    rfl
/-- What a round keeps: all arrays of kinds; nothing goes. -/
def KpT (A B : World) : Prop := A.heap.size ≤ B.heap.size ∧ ∀ (k : Nat) (cs : Array Value) (fz : Nat × Nat), A.heap[k]? = some (.cells cs 108 fz) → B.heap[k]? = some (.cells cs 108 fz)
theorem wpListIn_load_row {F : Fence} {n : Nat} {P : Program} {w : World} {ops : Array Oper} {rest : List Oper} {o : Oper} {a : Act} {Q : Exit → Act → World → Prop} (hgd : o.guard = none) (ty : TypeId) (x : Operand) (ho : o.op = .load ty x)
    (g : Nat) (hx : a.eval x = .pointer (some ⟨g, 0, none⟩)) (t : TypeId) (cs : Array Value) (fr : Nat × Nat) (d : TypeDesc) (hg : w.heap[g]? = some (.cells cs t fr))
    (hu : P.underlying ty = some d) (hd : (match d with | .struct _ | .array _ _ => true | _ => false) = true) (hi : (P.info? ty).map (·.size) = some cs.size)
    (h : wpListIn F n P ops Q rest (a.put o.dst (.agg cs)) w) : wpListIn F n P ops Q (o :: rest) a w := by
  refine wpListIn_plain hgd fun K hK => ?_
  unfold Oper.wpIn
  refine ⟨by simp [Oper.about, ho], ?_⟩
  rw [Oper.semAt_plain F _ _ (by rw [ho]; intro c hc'; cases hc')]
  unfold execOp
  simp only [ho, hx, Instr.loadAt, Instr.sureAddr, Sem.run_bind, Sem.run_pure, Result.andThen_ok, run_loadVar_row w g t ty cs fr d hg hu hd hi]
  exact hK _ _ h
set_option maxHeartbeats 4000000 in
set_option maxRecDepth 100000 in
theorem parts1_in (n : Nat) (hn : 3 ≤ n) (l Bs : Nat) (s : ByteArray) (xs : List Pt) (hm : s.size ≤ 1000000) (hxs : xs.map (fun x => x.1.data.toList) = cutT s.data.toList)
    (J Jx : List Pt → World → Prop) (hJ : ∀ ys W V, J ys W → Below W.heap.size W V → J ys V)
    (hY : ∀ pre x W, J pre W → pre.length < xs.length → YieldAt Fence.wide (n - 1) Try.prog l #[.string x.1] W fun e W' =>
      (e = .returned (.bool true) ∧ J (pre ++ [x]) W' ∧ KpT W W') ∨ (e = .returned (.bool false) ∧ Jx (pre ++ [x]) W'))
    (W : World) (hs : W.cell? ⟨Bs, 0, none⟩ = some (.string s)) (hlt : Bs < W.heap.size) (h0 : J [] W) :
    CallsIn Fence.wide n Try.prog 90 #[.func (.yield l) #[] #[], .pointer (some ⟨Bs, 0, none⟩)] W fun e W' => (∃ v, e = .returned v) ∧
      ((∃ ys, ys = xs ∧ J ys W') ∨ (∃ pre, pre <+: xs ∧ Jx pre W')) := by
  have h1 : 1 ≤ n := by omega
  have h2 : 1 ≤ n - 1 := by omega
  have hz := zero_256
  obtain ⟨O, hO⟩ : ∃ O, (kd.map encK).toArray = O := ⟨_, rfl⟩
  have HO := Lib.hid hO
  have HOS : Hid (O.size = 256) := by show _ = _; rw [← hO]; simp [kd_length]
  have HOC : Hid (O.all (·.oneCell') = true) := by show _ = _; rw [← hO]; simp [encK_one]
  have HM := Lib.hid hm
  have HXS := Lib.hid hxs
  have HJ := Lib.hid hJ
  have HY := Lib.hid hY
  have HJ0 := Lib.hid h0
  have HLT := Lib.hid hlt
  have HS := Lib.hid hs
  clear hO hm hxs hJ hY h0 hs hlt
  refine callsIn_wide.2 ?_
  go_enter Try.func90, Try.ntmps90
  go_wp2_with (first
    | (go_at_call 75; (with_reducible refine (kinds7 O W HO.out).mono ?_); rintro e w1 ⟨rfl, hb1⟩; have HB1 := Lib.hid hb1; clear hb1)
    | (refine wpList_store_row rfl _ _ _ rfl w1.heap.size O rfl rfl 108 zero256 (heap_alloc_new w1 _) (by rw [size256, HOS.out]) (by rw [HOS.out]; rfl) HOC.out ?_; obtain ⟨W2, hW2, hrow, hbW, hle, hWs⟩ := opnK W w1 O HB1.out; rw [hW2]; have c2 := (hbW.cell (p := ⟨Bs, 0, none⟩) HLT.out).trans HS.out; have HROW := Lib.hid hrow; have HBW := Lib.hid hbW; clear hW2 hrow hbW hle hWs)
    | fail)
  refine (wpIn_wide (n := n)).1 ?_
  obtain ⟨A, hA⟩ : ∃ A, w1.heap.size = A := ⟨_, rfl⟩
  rw [hA] at HROW ⊢
  clear hA
  have HJ2 : Hid (J [] W2) := HJ.out [] W W2 HJ0.out HBW.out
  clear HJ0 c2 HLT HS
  gi_loopg [4, 5, 6] (s.size + 1) (fun gg r m p wr => ∃ (R : ByteArray) (b : Bool) (pre suf : List Pt), r = .string R ∧ m = .bool b ∧ xs = pre ++ suf ∧ suf.map (fun x => x.1.data.toList) = (if b = true then cutT R.data.toList else []) ∧ R.size ≤ 1000000 ∧ (if b = true then R.size + 1 else 0) ≤ gg ∧ J pre wr ∧ wr.heap[A]? = some (.cells O 108 (0, 0)))
  case atStart => exact ⟨s, true, [], xs, rfl, rfl, rfl, HXS.out, HM.out, Nat.le_refl _, HJ2.out, HROW.out⟩
  case round =>
    clear HJ2 HROW HBW HXS HM HB1
    obtain ⟨R, b, pre, suf, rfl, rfl, hx, hsuf, hR, hg, hJp, hro⟩ := hrel
    have HX := Lib.hid hx
    have HSUF := Lib.hid hsuf
    have HR := Lib.hid hR
    have HG := Lib.hid hg
    have HJP := Lib.hid hJp
    have HRO := Lib.hid hro
    clear hx hsuf hR hg hJp hro
    cases b with
    | false =>
      obtain rfl : suf = [] := by
        have := HSUF.out
        rw [if_neg (by simp), List.map_eq_nil_iff] at this
        exact this
      obtain rfl : xs = pre := by have := HX.out; simpa using this
      gi_wp2
      go_end0
      exact ⟨⟨_, rfl⟩, .inl ⟨_, rfl, HJP.out⟩⟩
    | true =>
      obtain ⟨p, R', b, hcut, hp, hR', hb, hct⟩ := cut_any R HR.out
      obtain ⟨T, hT⟩ : ∃ T, trimS p = T := ⟨_, rfl⟩
      have HCUT := Lib.hid (hcut wr)
      have HP : Hid (p.size ≤ 1000000) := Lib.hid (Nat.le_trans hp HR.out)
      have HTT := Lib.hid hT
      have hTs : T.size ≤ 1000000 := by rw [← hT]; have := trimS_size p; have := HP.out; omega
      have HTS := Lib.hid hTs
      have HR' : Hid (R'.size ≤ 1000000) := Lib.hid (Nat.le_trans hR' HR.out)
      have hgg : R.size + 1 ≤ gk := by have := HG.out; simpa using this
      have HGG : Hid ((if b = true then R'.size + 1 else 0) ≤ gk - 1 ∧ 1 ≤ gk) := by
        refine ⟨?_, by omega⟩
        cases b with
        | true => have := hb rfl; simp; omega
        | false => simp
      have hsuf := HSUF.out
      rw [if_pos rfl, hct] at hsuf
      have hem := empty_b T
      have hem2 := empty_b2 T
      by_cases h0 : T.size = 0
      · have e1 : decide (T.size = 0) = true := by simp [h0]
        rw [e1] at hem hem2
        rw [oneT_nil (by rw [hT]; exact h0), List.nil_append] at hsuf
        have HSN := Lib.hid hsuf
        clear hcut hp hR' hb hct hT hTs hgg hsuf h0 e1
        gi_wp2_with (first
          | (refine ⟨trivial, ?_⟩; gi_at_call 55; (with_reducible refine (callsIn_wide.2 HCUT.out).mono ?_); rintro e w3 ⟨rfl, hb3⟩; have HRO3 : Hid (w3.heap[A]? = some (.cells O 108 (0, 0))) := Lib.hid ((hb3.block A (heap_lt7 HRO.out)).trans HRO.out); have HB3 := Lib.hid hb3; clear hb3)
          | (refine wpListIn_load_row rfl _ _ rfl A rfl 108 O (0, 0) _ HRO3.out Try.underlying108 rfl (by rw [size256, HOS.out]) ?_)
          | (refine ⟨trivial, ?_⟩; gi_at_call 78; (with_reducible refine (callsIn_wide.2 (trimK p T O w3 HO.out HP.out HTT.out)).mono ?_); rintro e w4 ⟨rfl, hb4⟩; have HB4 := Lib.hid (stp HB3.out hb4); clear hb4)
          | fail)
        refine ⟨fun _ h => (by cases h), ?_⟩
        gi_wp2
        gi_roundg (gk - 1)
        case rel => exact ⟨R', b, pre, suf, rfl, rfl, HX.out, HSN.out, HR'.out, HGG.out.1, HJ.out _ _ _ HJP.out HB4.out, (HB4.out.block A (heap_lt7 HRO.out)).trans HRO.out⟩
        case measure => have := HGG.out.2; omega
      · have e1 : decide (T.size = 0) = false := by simp [h0]
        rw [e1] at hem hem2
        rw [oneT_one (by rw [hT]; exact h0), hT] at hsuf
        obtain ⟨x, suf', rfl⟩ : ∃ x suf', suf = x :: suf' := by
          cases suf with
          | nil => simp at hsuf
          | cons x suf' => exact ⟨x, suf', rfl⟩
        rw [List.map_cons, List.cons_append, List.nil_append] at hsuf
        injection hsuf with hx1 hs1
        obtain ⟨x, hxs⟩ := x
        obtain rfl : x = T := ba_ext7 hx1
        have HSN := Lib.hid hs1
        have hlen : pre.length < xs.length := by rw [HX.out]; simp
        have HLN := Lib.hid hlen
        have HX2 : Hid (xs = (pre ++ [(⟨x, hxs⟩ : Pt)]) ++ suf') := by show _ = _; rw [HX.out]; simp
        clear hcut hp hR' hb hct hT hTs hgg hx1 hs1 hlen h0 e1
        gi_wp2_with (first
          | (refine ⟨trivial, ?_⟩; gi_at_call 55; (with_reducible refine (callsIn_wide.2 HCUT.out).mono ?_); rintro e w3 ⟨rfl, hb3⟩; have HRO3 : Hid (w3.heap[A]? = some (.cells O 108 (0, 0))) := Lib.hid ((hb3.block A (heap_lt7 HRO.out)).trans HRO.out); have HB3 := Lib.hid hb3; clear hb3)
          | (refine wpListIn_load_row rfl _ _ rfl A rfl 108 O (0, 0) _ HRO3.out Try.underlying108 rfl (by rw [size256, HOS.out]) ?_)
          | (refine ⟨trivial, ?_⟩; gi_at_call 78; (with_reducible refine (callsIn_wide.2 (trimK p x O w3 HO.out HP.out HTT.out)).mono ?_); rintro e w4 ⟨rfl, hb4⟩; have HB4 := Lib.hid (stp HB3.out hb4); clear hb4; obtain ⟨fn, tmps, assign, body, hy, hRR⟩ := HY.out pre ⟨x, hxs⟩ w4 (HJ.out _ _ _ HJP.out HB4.out) HLN.out; have HRR := Lib.hid hRR; clear hRR)
          | fail)
        refine HRR.out.mono ?_
        rintro e V (⟨rfl, hJv, hkv⟩ | ⟨rfl, hxv⟩)
        · have HJV := Lib.hid hJv
          have HROV : Hid (V.heap[A]? = some (.cells O 108 (0, 0))) := Lib.hid (hkv.2 A O (0, 0) ((HB4.out.block A (heap_lt7 HRO.out)).trans HRO.out))
          clear hJv hkv
          gi_wp2
          gi_roundg (gk - 1)
          case rel => exact ⟨R', b, pre ++ [(⟨x, hxs⟩ : Pt)], suf', rfl, rfl, HX2.out, HSN.out, HR'.out, HGG.out.1, HJV.out, HROV.out⟩
          case measure => have := HGG.out.2; omega
        · have HXV := Lib.hid hxv
          clear hxv
          gi_wp2
          refine bodyPost_ret (results_none rfl _ _ _) rfl ?_
          exact ⟨⟨_, rfl⟩, .inr ⟨_, ⟨suf', HX2.out.symm⟩, HXV.out⟩⟩
end Hx
end Go.Proofs.Ytfdhogaknlabkaa
