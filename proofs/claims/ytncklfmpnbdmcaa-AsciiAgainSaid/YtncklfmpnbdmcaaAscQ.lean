/-
  Contracts of package ascii: Lower, Same.
-/
import Derived.Test.YtncklfmpnbdmcaaAscN
import Derived.Lib.ConvBytes
import Derived.Lib.BufferMore
namespace Go.Proofs.Ytncklfmpnbdmcaa
open Go.RowKit
namespace Hx
open As
set_option linter.unusedVariables false
def Rw (g : Nat) (l : List UInt8) (w : World) : Prop := ∃ (cs : Array Value) (fr : Nat × Nat), w.heap[g]? = some (.cells cs 5 fr) ∧ l.length ≤ fr.1 ∧ (∀ (j : Nat) (c : UInt8), l[j]? = some c → cs[j]? = some (Value.int .u8 c.toNat))
theorem Rw.lt {g : Nat} {l : List UInt8} {w : World} (h : Rw g l w) : g < w.heap.size := by
  obtain ⟨cs, fr, h1, _⟩ := h
  exact lt_of_block h1
theorem Rw.cell {g k : Nat} {l : List UInt8} {c : UInt8} {w : World} (h : Rw g l w) (hc : l[k]? = some c) : w.cell? ⟨g, k, none⟩ = some (.int .u8 c.toNat) := by
  obtain ⟨cs, fr, h1, _, h3⟩ := h
  rw [cell_of_row w g k cs _ fr h1]
  exact h3 k c hc
theorem Rw.free {g k : Nat} {l : List UInt8} {w : World} (h : Rw g l w) (hk : k < l.length) : w.frozen? ⟨g, k, none⟩ = false := by
  obtain ⟨cs, fr, h1, h2, _⟩ := h
  obtain ⟨lo, hi⟩ := fr
  simp only at h2
  simp [World.frozen?, h1]
  omega
theorem Rw.rd {g : Nat} {l : List UInt8} {w : World} (h : Rw g l w) : RdA w w.heap.size (some ⟨g, 0, none⟩) l := by
  intro hp
  refine ⟨g, 0, rfl, h.lt, fun j hj => ?_⟩
  rw [Nat.zero_add]
  exact h.cell (List.getElem?_eq_getElem hj)
theorem Rw.put {g k : Nat} {l : List UInt8} {x : UInt8} {w : World} (h : Rw g l w) : Rw g (l.set k x) (w.setCell ⟨g, k, none⟩ (.int .u8 x.toNat)) := by
  obtain ⟨cs, fr, h1, h2, h3⟩ := h
  refine ⟨_, fr, Lib.heap_setCell_same h1 _, by rw [List.length_set]; exact h2, fun j c hj => ?_⟩
  rw [List.getElem?_set] at hj
  rw [Array.getElem?_setIfInBounds]
  by_cases hkj : k = j
  · subst hkj
    rw [if_pos rfl] at hj ⊢
    by_cases hk : k < l.length
    · rw [if_pos hk] at hj
      have hs := h3 k _ (List.getElem?_eq_getElem hk)
      have : k < cs.size := (Array.getElem?_eq_some_iff.1 hs).1
      rw [if_pos this]
      cases hj
      rfl
    · rw [if_neg hk] at hj
      cases hj
  · rw [if_neg hkj] at hj ⊢
    exact h3 j c hj
theorem str_row (l : List UInt8) (s : ByteArray) (hs : s.data.toList = l) (w : World) : ∃ C WB, (convert 9 43 (.string s)).run Try.prog w = .ok (.slice (some ⟨w.heap.size, 0, none⟩) s.size C) WB ∧ Rw w.heap.size l WB ∧ Below w.heap.size w WB := by
  have h := Lib.run_convert_string_bytes (P := Try.prog) w 9 43 5 s Try.underlying9 Try.underlying43 Try.underlying5
  refine ⟨_, _, h, ⟨_, _, Lib.bytesWorld_at_new w _ s, ?_, fun j c hj => ?_⟩, ⟨rfl, rfl, rfl, by rw [Lib.bytesWorld_size]; omega, fun k hk => Lib.bytesWorld_at_old w _ _ k hk⟩⟩
  · subst hs
    show _ ≤ (Lib.bytesCells w _ s).size
    simp [Lib.bytesCells]
  · subst hs
    obtain ⟨hk, e⟩ := List.getElem?_eq_some_iff.1 hj
    have hk2 : j < s.data.size := by simpa using hk
    unfold Lib.bytesCells
    rw [Array.getElem?_append_left (by simpa using hk2), Array.getElem?_map]
    have : s.data[j]? = some c := by rw [← Array.getElem?_toList]; exact hj
    rw [this]
    rfl
theorem heap_lt7 {a : World} {k : Nat} {o : Obj} (h : a.heap[k]? = some o) : k < a.heap.size := (Array.getElem?_eq_some_iff.1 h).1
theorem kind_grt (c : UInt8) (b : Bool) (h : (decide (65 ≤ c.toNat) && decide (c.toNat ≤ 90)) = b) : (((kindOf c).toNat : Int) == 3) = b := by
  rw [← h, ← kind_great c, show (((kindOf c).toNat : Int) == 3) = decide (((kindOf c).toNat : Int) = 3) from rfl, decide_eq_decide]
  constructor
  · intro e
    exact UInt8.toNat_inj.1 (by show _ = 3; omega)
  · intro e
    rw [e]
    rfl
/-- So many bytes turned. -/
def lowk (l : List UInt8) (k : Nat) : List UInt8 := lows (l.take k) ++ l.drop k
theorem lowk_len (l : List UInt8) (k : Nat) : (lowk l k).length = l.length := by
  unfold lowk
  rw [List.length_append, lows_length, List.length_take, List.length_drop]
  omega
theorem lowk_at {l : List UInt8} {k : Nat} {c : UInt8} (h : l[k]? = some c) : (lowk l k)[k]? = some c := by
  have hk := (List.getElem?_eq_some_iff.1 h).1
  unfold lowk
  rw [List.getElem?_append_right (by rw [lows_length, List.length_take]; omega), lows_length, List.length_take, Nat.min_eq_left (by omega), Nat.sub_self, List.getElem?_drop, Nat.add_zero]
  exact h
theorem lowk_next {l : List UInt8} {k : Nat} {c : UInt8} (h : l[k]? = some c) : lowk l (k + 1) = (lowk l k).set k (low c) := by
  have hk := (List.getElem?_eq_some_iff.1 h).1
  unfold lowk
  rw [take_next h, lows_snoc, drop_next h, List.set_append_right _ _ (by rw [lows_length, List.length_take]; omega), lows_length, List.length_take, Nat.min_eq_left (by omega), Nat.sub_self, List.set_cons_zero]
  simp
theorem lowk_same {l : List UInt8} {k : Nat} {c : UInt8} (h : l[k]? = some c) (hc : low c = c) : lowk l (k + 1) = lowk l k := by
  rw [lowk_next h, hc]
  have h2 := lowk_at h
  obtain ⟨hk, e⟩ := List.getElem?_eq_some_iff.1 h2
  conv => lhs; rw [← e]
  exact List.set_getElem_self hk
set_option maxHeartbeats 4000000 in
set_option maxRecDepth 100000 in
theorem lower7 (s t : ByteArray) (w : World) (h0 : s.size ≤ 1000000) (h1 : lowS s = t) :
    Calls Try.prog 15 #[.string s] w fun e w' => e = .returned (.string t) ∧ Below w.heap.size w w' := by
  have hz := zero_256
  obtain ⟨O, hO⟩ : ∃ O, (kd.map encK).toArray = O := ⟨_, rfl⟩
  have HO := Lib.hid hO
  have HOS : Hid (O.size = 256) := by show _ = _; rw [← hO]; simp [kd_length]
  have HOC : Hid (O.all (·.oneCell') = true) := by show _ = _; rw [← hO]; simp [encK_one]
  obtain ⟨l, hl⟩ : ∃ l, s.data.toList = l := ⟨_, rfl⟩
  have HL := Lib.hid hl
  have HSTR : Hid (∀ W : World, ∃ C WB, (convert 9 43 (.string s)).run Try.prog W = .ok (.slice (some ⟨W.heap.size, 0, none⟩) s.size C) WB ∧ Rw W.heap.size l WB ∧ Below W.heap.size W WB) := Lib.hid (fun W => str_row l s hl W)
  have H0 := Lib.hid h0
  have H1 := Lib.hid h1
  clear hO h0 h1 hl
  go_enter Try.func15, Try.ntmps15
  go_wp2_with (first
    | (go_at_call 27; (with_reducible refine (kinds7 O w HO.out).mono ?_); rintro e w1 ⟨rfl, hb1⟩; have HB1 := Lib.hid hb1; clear hb1)
    | (refine wpList_store_row rfl _ _ _ rfl w1.heap.size O rfl rfl 41 zero256 (heap_alloc_new w1 _) (by rw [size256, HOS.out]) (by rw [HOS.out]; rfl) HOC.out ?_; obtain ⟨W, hW, hrow, hbW, hle, hWs⟩ := opnK w w1 O HB1.out; rw [hW]; obtain ⟨C, WB, hconv, hrw, hbB⟩ := HSTR.out W; have HW := Lib.hid hW; have HROW := Lib.hid hrow; have HBW := Lib.hid hbW; have HLE := Lib.hid hle; have HWS := Lib.hid hWs; have HRW := Lib.hid hrw; have HBB := Lib.hid hbB; clear hW hrow hbW hle hWs hrw hbB)
    | fail)
  have hbw0 : Below w.heap.size w WB := HBW.out.trans (HBB.out.mono HBW.out.size)
  have hro0 : WB.heap[w1.heap.size]? = some (.cells O 41 (0, 0)) := (HBB.out.block _ (heap_lt7 HROW.out)).trans HROW.out
  have hgs : w1.heap.size < W.heap.size := heap_lt7 HROW.out
  have hle := HLE.out
  have hws : w.heap.size ≤ W.heap.size := by omega
  obtain ⟨g, hg⟩ : ∃ g, W.heap.size = g := ⟨_, rfl⟩
  obtain ⟨a, ha⟩ : ∃ a, w1.heap.size = a := ⟨_, rfl⟩
  have hrw0 := HRW.out
  have hl0 : lowk l 0 = l := by unfold lowk; rw [List.take_zero]; rfl
  rw [← hl0] at hrw0
  have hlen : l.length = s.size := by rw [← HL.out, ba_len7]
  rw [hg] at hgs hws hrw0 ⊢
  rw [ha] at hgs hro0 hle ⊢
  have HW0 := Lib.hid hbw0
  have HR0 := Lib.hid hro0
  have HRW0 := Lib.hid hrw0
  have HGS := Lib.hid hgs
  have HWSG := Lib.hid hws
  have HLEN := Lib.hid hlen
  clear hbw0 hro0 hgs hws hrw0 hl0 hlen hle hg ha hconv HW HROW HBW HLE HWS HRW HBB HSTR HB1
  go_loopg [5, 6, 12] s.size (fun gg x y i wr => ∃ k : Nat, k + gg = s.size ∧ i = .int .i64 k ∧ Rw g (lowk l k) wr ∧ wr.heap[a]? = some (.cells O 41 (0, 0)) ∧ Below w.heap.size w wr)
  case atStart => exact ⟨0, by omega, rfl, HRW0.out, HR0.out, HW0.out⟩
  case round =>
    obtain ⟨k, hk, rfl, hrw, hro, hbw⟩ := hrel
    have HRW := Lib.hid hrw
    have HRO := Lib.hid hro
    have HBW := Lib.hid hbw
    have hMM := H0.out
    clear HRW0 HR0 HW0
    by_cases hlt : k < s.size
    · obtain ⟨c, hc⟩ : ∃ c, l[k]? = some c := ⟨_, List.getElem?_eq_getElem (by have := HLEN.out; omega)⟩
      have hcell := hrw.cell (lowk_at hc)
      have hfree := hrw.free (k := k) (by rw [lowk_len, HLEN.out]; exact hlt)
      have hkc := kcell hro HO.out c
      have bk : (0 : Int) ≤ (k : Int) ∧ (k : Int) < (s.size : Int) := by omega
      have b1 : (0 : Int) ≤ (c.toNat : Int) ∧ (c.toNat : Int) < 256 := by have := c.toNat_lt; omega
      cases hb : (decide (65 ≤ c.toNat) && decide (c.toNat ≤ 90)) with
      | true =>
        have q1 := kind_grt c true hb
        rw [Bool.and_eq_true, decide_eq_true_eq, decide_eq_true_eq] at hb
        obtain ⟨x, hx⟩ : ∃ x, low c = x := ⟨_, rfl⟩
        have hxn := low_nat c
        rw [hx, if_pos hb] at hxn
        have g1 : IntKind.u8.wrap ((c.toNat : Int) + 32) = (x.toNat : Int) := by rw [IntWalk.u8_in _ (by omega)]; omega
        have HN : Hid (Rw g (lowk l (k + 1)) (wr.setCell ⟨g, k, none⟩ (.int .u8 x.toNat))) := by
          show Rw _ _ _
          rw [lowk_next hc, hx]
          exact HRW.out.put
        have HNO : Hid ((wr.setCell ⟨g, k, none⟩ (.int .u8 x.toNat)).heap[a]? = some (.cells O 41 (0, 0))) := by
          have := HGS.out
          exact (heap_setCell_other _ _ _ _ (by simp; omega)).trans HRO.out
        have HNB : Hid (Below w.heap.size w (wr.setCell ⟨g, k, none⟩ (.int .u8 x.toNat))) := Lib.hid (HBW.out.setCell (by exact HWSG.out) _)
        clear hb hx hxn hc hrw hro hbw
        go_wp2_with fail
        go_roundg (gk - 1)
        case rel => exact ⟨k + 1, by omega, by go_num, HN.out, HNO.out, HNB.out⟩
        case measure => omega
      | false =>
        have q1 := kind_grt c false hb
        have HN : Hid (Rw g (lowk l (k + 1)) wr) := by
          show Rw _ _ _
          rw [lowk_same hc (by
            unfold low
            rw [if_neg]
            intro h
            simp [h.1, h.2] at hb)]
          exact HRW.out
        clear hb hc hrw hro hbw
        go_wp2_with fail
        go_roundg (gk - 1)
        case rel => exact ⟨k + 1, by omega, by go_num, HN.out, HRO.out, HBW.out⟩
        case measure => omega
    · obtain rfl : k = s.size := by omega
      have hrd := hrw.rd
      have hend : lowk l s.size = lows l := by
        unfold lowk
        rw [List.take_of_length_le (by rw [HLEN.out]; exact Nat.le_refl _), List.drop_of_length_le (by rw [HLEN.out]; exact Nat.le_refl _), List.append_nil]
      rw [hend] at hrd
      have cv := conv_str (P := Try.prog) (n := s.size) (c := C) hrd (by rw [lows_length, HLEN.out]) Try.underlying43 Try.underlying5 Try.underlying9
      have ht2 : (⟨(lows l).toArray⟩ : ByteArray) = t := by rw [← HL.out]; exact H1.out
      rw [ht2] at cv
      clear hrw hro hbw hrd hend ht2
      go_wp2_with fail
      go_ret
      exact ⟨rfl, HBW.out⟩
theorem low_seq (a b : ByteArray) : (a.toList == b.toList) = decide (a = b) := seq_b7 a b
set_option maxRecDepth 100000 in
theorem same7 (s u : ByteArray) (b : Bool) (w : World) (h0 : s.size ≤ 1000000) (h1 : u.size ≤ 1000000) (h2 : decide (lowS s = lowS u) = b) :
    Calls Try.prog 13 #[.string s, .string u] w fun e w' => e = .returned (.bool b) ∧ Below w.heap.size w w' := by
  obtain ⟨x, hx⟩ : ∃ x, lowS s = x := ⟨_, rfl⟩
  obtain ⟨y, hy⟩ : ∃ y, lowS u = y := ⟨_, rfl⟩
  have H0 := Lib.hid h0
  have H1 := Lib.hid h1
  have HX := Lib.hid hx
  have HY := Lib.hid hy
  have hq : (x.toList == y.toList) = b := by rw [seq_b7, ← hx, ← hy]; exact h2
  clear h0 h1 h2 hx hy
  go_enter Try.func13, Try.ntmps13
  go_wp2_with (first
    | (go_at_call 15; (with_reducible refine (lower7 s x w H0.out HX.out).mono ?_); rintro e w1 ⟨rfl, hb1⟩)
    | (go_at_call 15; (with_reducible refine (lower7 u y w1 H1.out HY.out).mono ?_); rintro e w2 ⟨rfl, hb2⟩)
    | fail)
  go_ret
  exact ⟨rfl, stp hb1 hb2⟩
end Hx
end Go.Proofs.Ytncklfmpnbdmcaa
