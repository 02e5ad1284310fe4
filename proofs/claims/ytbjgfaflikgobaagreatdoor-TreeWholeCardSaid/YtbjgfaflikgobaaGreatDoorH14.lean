/-
  Texts of one seat, put together: TextZ, TextV, EscE.
-/
import Derived.Test.YtbjgfaflikgobaaGreatDoorH08
import Derived.OwnWalk
import Derived.OneCell
import Derived.Test.YtbjgfaflikgobaaGreatDoorH13
namespace Go.Proofs.YtbjgfaflikgobaaGreatDoor
open Go.RowKit
namespace Hx
open Tx
set_option linter.unusedVariables false
end Hx
end Go.Proofs.YtbjgfaflikgobaaGreatDoor
namespace Go.Proofs.YtbjgfaflikgobaaGreatDoor
open Go.RowKit
namespace Hx
open Tx
set_option linter.unusedVariables false
/-- The closure of Of, for every code point that may be. -/
theorem put5 (n : Nat) (E : List UInt8) (hE : enc n = E) (B g : Nat) (l : List UInt8) (w : World) (hm : may n = true) (hbx : Box B g l w) (hB : B ≤ g) (hl : l.length ≤ 1000000) (hBw : B ≤ w.heap.size) :
    Calls Tryz.prog 206 #[.int .i64 n, .pointer (some ⟨g, 0, none⟩)] w (PutTo B g (l ++ E) w) := by
  have h0 := (may_sv hm).2.1
  rw [← hE]
  unfold enc
  by_cases h1 : n < 128
  · rw [if_pos h1]; exact put_1 n _ B g l w h1 rfl hbx hB hl hBw
  · rw [if_neg h1]
    by_cases h2 : n < 2048
    · rw [if_pos h2]; exact put_2 n _ _ B g l w (by omega) h2 rfl rfl hbx hB hl hBw
    · rw [if_neg h2]
      by_cases h3 : n < 65536
      · rw [if_pos h3]; exact put_3 n _ _ _ B g l w (by omega) h3 rfl rfl rfl hbx hB hl hBw
      · rw [if_neg h3]; exact put_4 n _ _ _ _ B g l w (by omega) (by omega) rfl rfl rfl rfl hbx hB hl hBw
theorem byL_take_le (l : List Int) (k : Nat) : (byL (l.take k)).length ≤ (byL l).length := by
  have h : byL l = byL (l.take k) ++ byL (l.drop k) := by
    unfold byL
    rw [← encs_append, ← List.map_append, List.take_append_drop]
  rw [h, List.length_append]
  omega
theorem ofR_no (l : List Int) (k : Nat) (h : k < l.length) (h2 : may (l[k]'h) = false) : ofR l = (⟨#[]⟩, 50) := by
  unfold ofR
  rw [not_all_may l k h h2]
  rfl
theorem ofR_many (l : List Int) (h : l.all may = true) (h2 : 16384 < (byL l).length) : ofR l = (⟨#[]⟩, 4) := by
  unfold ofR
  rw [if_pos h, if_pos h2]
theorem ofR_ok (l : List Int) (h : l.all may = true) (h2 : ¬ 16384 < (byL l).length) : ofR l = (⟨(byL l).toArray⟩, 0) := by
  unfold ofR
  rw [if_pos h, if_neg h2]
set_option maxHeartbeats 4000000 in
set_option maxRecDepth 100000 in
theorem of5 (A : Option Addr) (n cp : Nat) (l : List Int) (w : World) (hr : RdZ w w.heap.size A l) (hn : l.length = n) (hm : n ≤ 100000) (t : ByteArray) (q : Int) (hq : ofR l = (t, q)) :
    Calls Tryz.prog 189 #[.slice A n cp] w fun e w' => e = .returned (.tuple #[.string t, .int .i64 q]) ∧ Below w.heap.size w w' := by
  have hmf : ∀ (fn : Fn) (first cap : Array Value) (w : World), (Instr.makeFunc fn first cap).run Tryz.prog w = .ok (.func fn first cap) w := fun _ _ _ _ => rfl
  have HR := Lib.hid hr
  have HN := Lib.hid hn
  have HM := Lib.hid hm
  have HQ := Lib.hid hq
  clear hr hn hm hq
  go_enter Tryz.func189, Tryz.ntmps189
  go_wp2_with fail
  go_loopg [5, 12] n (fun gg x5 i wr => ∃ k : Nat, k + gg = n ∧ i = .int .i64 k ∧ w = wr ∧ (l.take k).all may = true)
  case atStart => exact ⟨0, by omega, rfl, rfl, rfl⟩
  case round =>
    obtain ⟨k, hk, rfl, rfl, hall⟩ := hrel
    have HALL := Lib.hid hall
    clear hall
    have hMM := HM.out
    by_cases hlt : k < n
    · obtain ⟨g, o, rfl, hg, hc⟩ := HR.out (by rw [HN.out]; omega)
      have hkl : k < l.length := by rw [HN.out]; exact hlt
      have hcell0 := hc k hkl
      obtain ⟨z, hzv⟩ : ∃ z, l[k]'hkl = z := ⟨_, rfl⟩
      rw [hzv] at hcell0
      have hcell : w.cell? ⟨g, o + k, none⟩ = some (.int .i64 z) := hcell0
      have bk : (0 : Int) ≤ (k : Int) ∧ (k : Int) < (n : Int) := by omega
      cases hmz : may z
      · have hq0 := HQ.out
        rw [ofR_no l k hkl (by rw [hzv]; exact hmz)] at hq0
        obtain ⟨rfl, rfl⟩ : (⟨#[]⟩ : ByteArray) = t ∧ (50 : Int) = q := by cases hq0; exact ⟨rfl, rfl⟩
        have HMZ := Lib.hid hmz
        clear hmz hzv hcell0 hc HQ hq0
        go_wp2_with (first
          | (go_at_call 125; (with_reducible refine (may5w z false w HMZ.out).mono ?_); rintro e w1 ⟨rfl, rfl⟩)
          | fail)
        go_ret2
        exact ⟨rfl, Below.refl _ _⟩
      · have HMZ := Lib.hid hmz
        have HALL2 := Lib.hid (all_take l k hkl HALL.out (by rw [hzv]; exact hmz))
        clear hmz hzv hcell0 hc
        go_wp2_with (first
          | (go_at_call 125; (with_reducible refine (may5w z true w HMZ.out).mono ?_); rintro e w1 ⟨rfl, rfl⟩)
          | fail)
        go_roundg (gk - 1)
        case rel => exact ⟨k + 1, by omega, by go_num, rfl, HALL2.out⟩
        case measure => omega
    · obtain rfl : n = k := by omega
      have hall : l.all may = true := by
        have := HALL.out
        rwa [List.take_of_length_le (by rw [HN.out]; omega)] at this
      have HA := Lib.hid hall
      have hbox0 : Box w.heap.size w.heap.size [] (w.alloc (.cells #[.slice none 0 0] 70)) := ⟨_, heap_alloc_new w _, World.ownsRow_nil _ _ _ _⟩
      have HBX0 := Lib.hid hbox0
      clear hall HALL hbox0
      go_wp2_with fail
      go_loopg [9, 23] n (fun gg x9 i wr => ∃ k : Nat, k + gg = n ∧ i = .int .i64 k ∧ Below w.heap.size w wr ∧ Box w.heap.size w.heap.size (byL (l.take k)) wr ∧ (byL (l.take k)).length ≤ 16384 ∧ w.heap.size ≤ wr.heap.size)
      case atStart => exact ⟨0, by omega, rfl, stpA (Below.refl _ _) _, HBX0.out, by simp [byL, encs], by rw [World.size_alloc]; omega⟩
      case round =>
        obtain ⟨k, hk2, rfl, hbw, hbox, hlen, hsz⟩ := hrel
        have HBW := Lib.hid hbw
        have HBX := Lib.hid hbox
        by_cases hlt2 : k < n
        · obtain ⟨g, o, rfl, hg, hc⟩ := HR.out (by rw [HN.out]; omega)
          have hkl : k < l.length := by rw [HN.out]; exact hlt2
          have hcell0 := (hbw.cell (p := ⟨g, o + k, none⟩) hg).trans (hc k hkl)
          obtain ⟨z, hzv⟩ : ∃ z, l[k]'hkl = z := ⟨_, rfl⟩
          rw [hzv] at hcell0
          have hcell : wr.cell? ⟨g, o + k, none⟩ = some (.int .i64 z) := hcell0
          have bk : (0 : Int) ≤ (k : Int) ∧ (k : Int) < (n : Int) := by omega
          have hmz : may z = true := by
            have := HA.out
            rw [List.all_eq_true] at this
            rw [← hzv]
            exact this _ (List.getElem_mem hkl)
          obtain ⟨m, rfl⟩ : ∃ m : Nat, z = m := ⟨z.toNat, by have := (may_sv hmz).1; omega⟩
          obtain ⟨E, hE⟩ : ∃ E, enc m = E := ⟨_, rfl⟩
          have hnx : byL (l.take (k + 1)) = byL (l.take k) ++ E := by
            rw [List.take_succ_eq_append_getElem hkl, byL_snoc, hzv, ← hE]
            rfl
          obtain ⟨bl, hbl⟩ : ∃ bl, (byL (l.take k) ++ E).length = bl := ⟨_, rfl⟩
          have hble := byL_take_le l (k + 1)
          rw [hnx, hbl] at hble
          have HMZ := Lib.hid hmz
          have HE := Lib.hid hE
          have HNX := Lib.hid hnx
          have HBL := Lib.hid hbl
          have HBLE := Lib.hid hble
          have HLEN : Hid ((byL (l.take k)).length ≤ 1000000) := Lib.hid (by omega)
          by_cases h16 : 16384 < bl
          · have d0 : decide ((16384 : Int) < (bl : Int)) = true := by simp; omega
            have hq0 := HQ.out
            rw [ofR_many l HA.out (by omega)] at hq0
            obtain ⟨rfl, rfl⟩ : (⟨#[]⟩ : ByteArray) = t ∧ (4 : Int) = q := by cases hq0; exact ⟨rfl, rfl⟩
            clear hmz hzv hcell0 hc HQ hq0 hE hnx hbl hble hbw hbox hlen
            go_wp2_with (first
              | (go_at_call 206; (with_reducible refine (put5 m E HE.out w.heap.size w.heap.size (byL (l.take k)) wr HMZ.out HBX.out (Nat.le_refl _) HLEN.out hsz).mono ?_); rintro e w2 ⟨rfl, hb2, v2, hg2, hown2⟩; obtain ⟨A2, k2, rfl⟩ := own_form hown2; have HG2 := Lib.hid hg2; have HO2 := Lib.hid hown2; have HB2 := Lib.hid hb2; have hc2 := cell_of_one hg2; rw [HBL.out] at hc2; clear hg2 hown2 hb2)
              | fail)
            go_ret2
            exact ⟨rfl, HBW.out.trans HB2.out⟩
          · have d0 : decide ((16384 : Int) < (bl : Int)) = false := by simp; omega
            clear hmz hzv hcell0 hc hE hnx hbl hble hbw hbox hlen
            go_wp2_with (first
              | (go_at_call 206; (with_reducible refine (put5 m E HE.out w.heap.size w.heap.size (byL (l.take k)) wr HMZ.out HBX.out (Nat.le_refl _) HLEN.out hsz).mono ?_); rintro e w2 ⟨rfl, hb2, v2, hg2, hown2⟩; obtain ⟨A2, k2, rfl⟩ := own_form hown2; have HG2 := Lib.hid hg2; have HO2 := Lib.hid hown2; have HB2 := Lib.hid hb2; have hc2 := cell_of_one hg2; rw [HBL.out] at hc2; clear hg2 hown2 hb2)
              | fail)
            go_roundg (gk - 1)
            case rel =>
              have hb3 := HBW.out.trans HB2.out
              exact ⟨k + 1, by omega, by go_num, hb3, ⟨_, HG2.out, by rw [HNX.out]; exact HO2.out⟩, by rw [HNX.out, HBL.out]; omega, hb3.size⟩
            case measure => omega
        · obtain rfl : n = k := by omega
          have htk : l.take n = l := List.take_of_length_le (by rw [HN.out]; omega)
          rw [htk] at hbox hlen
          obtain ⟨v2, hg2, hown2⟩ := hbox
          obtain ⟨A2, k2, rfl⟩ := own_form hown2
          have hq0 := HQ.out
          rw [ofR_ok l HA.out (by omega)] at hq0
          obtain ⟨rfl, rfl⟩ : (⟨(byL l).toArray⟩ : ByteArray) = t ∧ (0 : Int) = q := by cases hq0; exact ⟨rfl, rfl⟩
          obtain ⟨bl, hbl⟩ : ∃ bl, (byL l).length = bl := ⟨_, rfl⟩
          have hc2 := cell_of_one hg2
          rw [hbl] at hc2
          have cv := conv_str (P := Tryz.prog) (n := bl) (c := k2) (RdA.of_own hown2).1 hbl Tryz.underlying70 Tryz.underlying5 Tryz.underlying9
          rw [hbl] at hown2
          clear hbw hg2 hown2 hq0 hbl HQ hlen htk HBX
          go_wp2_with fail
          go_ret2
          exact ⟨rfl, HBW.out⟩
end Hx
end Go.Proofs.YtbjgfaflikgobaaGreatDoor
namespace Go.Proofs.YtbjgfaflikgobaaGreatDoor
open Go.RowKit
namespace Hx
open Tx Nmb Es
set_option linter.unusedVariables false
def wdK (l : List UInt8) : Value := .string ⟨l.toArray⟩
def WD : Array MapEntry := #[⟨wdK [97, 109, 112], .int .i64 38, 0⟩, ⟨wdK [108, 116], .int .i64 60, 1⟩, ⟨wdK [103, 116], .int .i64 62, 2⟩, ⟨wdK [113, 117, 111, 116], .int .i64 34, 3⟩, ⟨wdK [97, 112, 111, 115], .int .i64 39, 4⟩]
theorem str_key (s : ByteArray) : MapKept.IsKey .string (.string s) := by simp [MapKept.IsKey]
/-- The reader's value; what its blocks hold. -/
def RdV (M G : Nat) : Value := .agg #[.map (some M), .slice (some ⟨G, 0, none⟩) 2 2]
def BS : Array Value := #[.string ⟨#[35, 120]⟩, .func (.func 186) #[] #[], .string ⟨#[35]⟩, .func (.func 187) #[] #[]]
def Rdr (M G : Nat) (w : World) : Prop := w.heap[M]? = some (.map WD 5) ∧ w.heap[G]? = some (.cells BS 188)
theorem heap_lt {w : World} {k : Nat} {o : Obj} (h : w.heap[k]? = some o) : k < w.heap.size := by
  rcases Nat.lt_or_ge k w.heap.size with h' | h'
  · exact h'
  · rw [Array.getElem?_eq_none h'] at h; cases h
theorem Rdr.to {M G : Nat} {w w' : World} (h : Rdr M G w) (hb : Below w.heap.size w w') : Rdr M G w' :=
  ⟨kept_at h.1 hb (heap_lt h.1), kept_at h.2 hb (heap_lt h.2)⟩
set_option maxRecDepth 100000 in
theorem reader8 (w : World) :
    Calls Tryz.prog 170 #[] w fun e w' => ∃ M G, e = .returned (RdV M G) ∧ Rdr M G w' ∧ Below w.heap.size w w' := by
  have hmm := @run_makeMap Tryz.prog
  go_enter Tryz.func170, Tryz.ntmps170
  go_wp2_with (refine wpList_ins rfl _ _ _ _ rfl rfl rfl rfl (run_ins_at (w := w.alloc _) (by simp) Tryz.underlying172 Tryz.underlying9 (str_key _) rfl) ?_)
  refine bodyPost_ret (v := RdV (w.heap.size + 1) (w.heap.size + 1 + 1)) ?_ rfl ⟨w.heap.size + 1, w.heap.size + 1 + 1, rfl, ⟨?_, ?_⟩, ?_⟩
  · simp [results, Tryz.results170, go_sem, RdV]
  · rw [heap_alloc_old]
    · have := heap_alloc_new (w.alloc (.cells #[.map (some (w.heap.size + 1)), .slice (some ⟨w.heap.size + 1 + 1, 0, none⟩) 2 2] 176)) (.map WD 5)
      rw [show (w.alloc (.cells #[.map (some (w.heap.size + 1)), .slice (some ⟨w.heap.size + 1 + 1, 0, none⟩) 2 2] 176)).heap.size = w.heap.size + 1 by simp] at this
      exact this
    · simp
  · have := heap_alloc_new ((w.alloc (.cells #[.map (some (w.heap.size + 1)), .slice (some ⟨w.heap.size + 1 + 1, 0, none⟩) 2 2] 176)).alloc (.map WD 5)) (.cells BS 188)
    rw [show ((w.alloc (.cells #[.map (some (w.heap.size + 1)), .slice (some ⟨w.heap.size + 1 + 1, 0, none⟩) 2 2] 176)).alloc (.map WD 5)).heap.size = w.heap.size + 1 + 1 by simp] at this
    exact this
  · exact (((Below.refl _ _).alloc (Nat.le_refl _) _).alloc (by simp) _).alloc (by simp; omega) _
/-- A word's code point. -/
def wdO (l : List UInt8) : Option Int := if l = [97, 109, 112] then some 38 else if l = [108, 116] then some 60 else if l = [103, 116] then some 62 else if l = [113, 117, 111, 116] then some 34 else if l = [97, 112, 111, 115] then some 39 else none
def wdF (l : List UInt8) : Option (Nat × Value) := if l = [97, 109, 112] then some (0, .int .i64 38) else if l = [108, 116] then some (1, .int .i64 60) else if l = [103, 116] then some (2, .int .i64 62) else if l = [113, 117, 111, 116] then some (3, .int .i64 34) else if l = [97, 112, 111, 115] then some (4, .int .i64 39) else none
theorem bytes_same (s : ByteArray) (l : List UInt8) : (s == (⟨l.toArray⟩ : ByteArray)) = decide (s.data.toList = l) := by
  rw [Bool.eq_iff_iff, MapKept.bytes_beq, decide_eq_true_eq]
  constructor
  · intro h; rw [h]
  · intro h; rw [← h]
theorem wd_one (s : ByteArray) (k : List UInt8) (v : Value) (b : Nat) (l : List MapEntry) (i : Nat) :
    Instr.findNow .string (.string s) (⟨wdK k, v, b⟩ :: l) i = if s.data.toList = k then some (some (i, v)) else Instr.findNow .string (.string s) l (i + 1) := by
  rw [Instr.findNow]
  show (match some (s == (⟨k.toArray⟩ : ByteArray)) with | some true => _ | some false => _ | none => _) = _
  rw [bytes_same]
  by_cases h : s.data.toList = k
  · rw [if_pos h, decide_eq_true h]
  · rw [if_neg h, decide_eq_false h]
theorem wd_find (s : ByteArray) : Instr.findNow .string (.string s) WD.toList 0 = some (wdF s.data.toList) := by
  show Instr.findNow .string (.string s) [⟨wdK [97, 109, 112], _, 0⟩, ⟨wdK [108, 116], _, 1⟩, ⟨wdK [103, 116], _, 2⟩, ⟨wdK [113, 117, 111, 116], _, 3⟩, ⟨wdK [97, 112, 111, 115], _, 4⟩] 0 = _
  rw [wd_one, wd_one, wd_one, wd_one, wd_one]
  unfold wdF
  split
  · rfl
  split
  · rfl
  split
  · rfl
  split
  · rfl
  split
  · rfl
  · rfl
def wdV (o : Option Int) : Value := match o with | some n => .tuple #[.int .i64 n, .bool true] | none => .tuple #[.int .i64 0, .bool false]
theorem wdF_O (l : List UInt8) : lookV (.int .i64 0) (wdF l) = wdV (wdO l) := by
  unfold wdF wdO
  split
  · rfl
  split
  · rfl
  split
  · rfl
  split
  · rfl
  split
  · rfl
  · rfl
theorem zero_int (w : World) : (zeroValue 3).run Tryz.prog w = .ok (.int .i64 0) w := by kernel_rfl
theorem lookw (s : ByteArray) (w : World) (M : Nat) (hb : w.heap[M]? = some (.map WD 5)) :
    (Instr.lookup 172 (.map (some M)) (.string s) true).run Tryz.prog w = .ok (wdV (wdO s.data.toList)) w := by
  rw [run_look Tryz.underlying172 Tryz.underlying9 (str_key _) hb rfl (zero_int w) (wd_find s), wdF_O]
end Hx
end Go.Proofs.YtbjgfaflikgobaaGreatDoor
