/-
  Contracts of package text: Of.
-/
import Derived.Test.YtjdeomlpipdopaaDoorTextX
import Derived.Test.YtjdeomlpipdopaaDoorTextY
import Derived.Test.YtjdeomlpipdopaaDoorTextZ
namespace Go.Proofs.YtjdeomlpipdopaaDoor
open Go.RowKit
namespace Hx
open Tx
set_option linter.unusedVariables false
/-- The closure of Of, for every code point that may be. -/
theorem put5 (n : Nat) (E : List UInt8) (hE : enc n = E) (B g : Nat) (l : List UInt8) (w : World) (hm : may n = true) (hbx : Box B g l w) (hB : B ≤ g) (hl : l.length ≤ 1000000) (hBw : B ≤ w.heap.size) :
    Calls Tryd.prog 37 #[.int .i64 n, .pointer (some ⟨g, 0, none⟩)] w (PutTo B g (l ++ E) w) := by
  have h0 := (may_sv hm).2.1
  rw [← hE]
  unfold enc
  by_cases h1 : n < 128
  · rw [if_pos h1]; exact put_1 n _ B g l w h1 rfl hbx hB hl hBw
  · rw [if_neg h1]
    by_cases h2 : n < 2048
    · rw [if_pos h2]; exact put_2 n _ _ B g l w (by omega) h2 rfl rfl hbx hB hl hBw
    · rw [if_neg h2]
      by_cases h3 : n < 65536
      · rw [if_pos h3]; exact put_3 n _ _ _ B g l w (by omega) h3 rfl rfl rfl hbx hB hl hBw
      · rw [if_neg h3]; exact put_4 n _ _ _ _ B g l w (by omega) (by omega) rfl rfl rfl rfl hbx hB hl hBw
theorem byL_take_le (l : List Int) (k : Nat) : (byL (l.take k)).length ≤ (byL l).length := by
  have h : byL l = byL (l.take k) ++ byL (l.drop k) := by
    unfold byL
    rw [← encs_append, ← List.map_append, List.take_append_drop]
  rw [h, List.length_append]
  omega
theorem ofR_no (l : List Int) (k : Nat) (h : k < l.length) (h2 : may (l[k]'h) = false) : ofR l = (⟨#[]⟩, 50) := by
  unfold ofR
  rw [not_all_may l k h h2]
  rfl
theorem ofR_many (l : List Int) (h : l.all may = true) (h2 : 16384 < (byL l).length) : ofR l = (⟨#[]⟩, 4) := by
  unfold ofR
  rw [if_pos h, if_pos h2]
theorem ofR_ok (l : List Int) (h : l.all may = true) (h2 : ¬ 16384 < (byL l).length) : ofR l = (⟨(byL l).toArray⟩, 0) := by
  unfold ofR
  rw [if_pos h, if_neg h2]
set_option maxHeartbeats 4000000 in
set_option maxRecDepth 100000 in
theorem of5 (A : Option Addr) (n cp : Nat) (l : List Int) (w : World) (hr : RdZ w w.heap.size A l) (hn : l.length = n) (hm : n ≤ 100000) (t : ByteArray) (q : Int) (hq : ofR l = (t, q)) :
    Calls Tryd.prog 19 #[.slice A n cp] w fun e w' => e = .returned (.tuple #[.string t, .int .i64 q]) ∧ Below w.heap.size w w' := by
  have hmf : ∀ (fn : Fn) (first cap : Array Value) (w : World), (Instr.makeFunc fn first cap).run Tryd.prog w = .ok (.func fn first cap) w := fun _ _ _ _ => rfl
  have HR := Lib.hid hr
  have HN := Lib.hid hn
  have HM := Lib.hid hm
  have HQ := Lib.hid hq
  clear hr hn hm hq
  go_enter Tryd.func19, Tryd.ntmps19
  go_wp2_with fail
  go_loopg [5, 12] n (fun gg x5 i wr => ∃ k : Nat, k + gg = n ∧ i = .int .i64 k ∧ w = wr ∧ (l.take k).all may = true)
  case atStart => exact ⟨0, by omega, rfl, rfl, rfl⟩
  case round =>
    obtain ⟨k, hk, rfl, rfl, hall⟩ := hrel
    have HALL := Lib.hid hall
    clear hall
    have hMM := HM.out
    by_cases hlt : k < n
    · obtain ⟨g, o, rfl, hg, hc⟩ := HR.out (by rw [HN.out]; omega)
      have hkl : k < l.length := by rw [HN.out]; exact hlt
      have hcell0 := hc k hkl
      obtain ⟨z, hzv⟩ : ∃ z, l[k]'hkl = z := ⟨_, rfl⟩
      rw [hzv] at hcell0
      have hcell : w.cell? ⟨g, o + k, none⟩ = some (.int .i64 z) := hcell0
      have bk : (0 : Int) ≤ (k : Int) ∧ (k : Int) < (n : Int) := by omega
      cases hmz : may z
      · have hq0 := HQ.out
        rw [ofR_no l k hkl (by rw [hzv]; exact hmz)] at hq0
        obtain ⟨rfl, rfl⟩ : (⟨#[]⟩ : ByteArray) = t ∧ (50 : Int) = q := by cases hq0; exact ⟨rfl, rfl⟩
        have HMZ := Lib.hid hmz
        clear hmz hzv hcell0 hc HQ hq0
        go_wp2_with (first
          | (go_at_call 20; (with_reducible refine (may5w z false w HMZ.out).mono ?_); rintro e w1 ⟨rfl, rfl⟩)
          | fail)
        go_ret2
        exact ⟨rfl, Below.refl _ _⟩
      · have HMZ := Lib.hid hmz
        have HALL2 := Lib.hid (all_take l k hkl HALL.out (by rw [hzv]; exact hmz))
        clear hmz hzv hcell0 hc
        go_wp2_with (first
          | (go_at_call 20; (with_reducible refine (may5w z true w HMZ.out).mono ?_); rintro e w1 ⟨rfl, rfl⟩)
          | fail)
        go_roundg (gk - 1)
        case rel => exact ⟨k + 1, by omega, by go_num, rfl, HALL2.out⟩
        case measure => omega
    · obtain rfl : n = k := by omega
      have hall : l.all may = true := by
        have := HALL.out
        rwa [List.take_of_length_le (by rw [HN.out]; omega)] at this
      have HA := Lib.hid hall
      have hbox0 : Box w.heap.size w.heap.size [] (w.alloc (.cells #[.slice none 0 0] 22)) := ⟨_, heap_alloc_new w _, World.ownsRow_nil _ _ _ _⟩
      have HBX0 := Lib.hid hbox0
      clear hall HALL hbox0
      go_wp2_with fail
      go_loopg [9, 23] n (fun gg x9 i wr => ∃ k : Nat, k + gg = n ∧ i = .int .i64 k ∧ Below w.heap.size w wr ∧ Box w.heap.size w.heap.size (byL (l.take k)) wr ∧ (byL (l.take k)).length ≤ 16384 ∧ w.heap.size ≤ wr.heap.size)
      case atStart => exact ⟨0, by omega, rfl, stpA (Below.refl _ _) _, HBX0.out, by simp [byL, encs], by rw [World.size_alloc]; omega⟩
      case round =>
        obtain ⟨k, hk2, rfl, hbw, hbox, hlen, hsz⟩ := hrel
        have HBW := Lib.hid hbw
        have HBX := Lib.hid hbox
        by_cases hlt2 : k < n
        · obtain ⟨g, o, rfl, hg, hc⟩ := HR.out (by rw [HN.out]; omega)
          have hkl : k < l.length := by rw [HN.out]; exact hlt2
          have hcell0 := (hbw.cell (p := ⟨g, o + k, none⟩) hg).trans (hc k hkl)
          obtain ⟨z, hzv⟩ : ∃ z, l[k]'hkl = z := ⟨_, rfl⟩
          rw [hzv] at hcell0
          have hcell : wr.cell? ⟨g, o + k, none⟩ = some (.int .i64 z) := hcell0
          have bk : (0 : Int) ≤ (k : Int) ∧ (k : Int) < (n : Int) := by omega
          have hmz : may z = true := by
            have := HA.out
            rw [List.all_eq_true] at this
            rw [← hzv]
            exact this _ (List.getElem_mem hkl)
          obtain ⟨m, rfl⟩ : ∃ m : Nat, z = m := ⟨z.toNat, by have := (may_sv hmz).1; omega⟩
          obtain ⟨E, hE⟩ : ∃ E, enc m = E := ⟨_, rfl⟩
          have hnx : byL (l.take (k + 1)) = byL (l.take k) ++ E := by
            rw [List.take_succ_eq_append_getElem hkl, byL_snoc, hzv, ← hE]
            rfl
          obtain ⟨bl, hbl⟩ : ∃ bl, (byL (l.take k) ++ E).length = bl := ⟨_, rfl⟩
          have hble := byL_take_le l (k + 1)
          rw [hnx, hbl] at hble
          have HMZ := Lib.hid hmz
          have HE := Lib.hid hE
          have HNX := Lib.hid hnx
          have HBL := Lib.hid hbl
          have HBLE := Lib.hid hble
          have HLEN : Hid ((byL (l.take k)).length ≤ 1000000) := Lib.hid (by omega)
          by_cases h16 : 16384 < bl
          · have d0 : decide ((16384 : Int) < (bl : Int)) = true := by simp; omega
            have hq0 := HQ.out
            rw [ofR_many l HA.out (by omega)] at hq0
            obtain ⟨rfl, rfl⟩ : (⟨#[]⟩ : ByteArray) = t ∧ (4 : Int) = q := by cases hq0; exact ⟨rfl, rfl⟩
            clear hmz hzv hcell0 hc HQ hq0 hE hnx hbl hble hbw hbox hlen
            go_wp2_with (first
              | (go_at_call 37; (with_reducible refine (put5 m E HE.out w.heap.size w.heap.size (byL (l.take k)) wr HMZ.out HBX.out (Nat.le_refl _) HLEN.out hsz).mono ?_); rintro e w2 ⟨rfl, hb2, v2, hg2, hown2⟩; obtain ⟨A2, k2, rfl⟩ := own_form hown2; have HG2 := Lib.hid hg2; have HO2 := Lib.hid hown2; have HB2 := Lib.hid hb2; have hc2 := cell_of_one hg2; rw [HBL.out] at hc2; clear hg2 hown2 hb2)
              | fail)
            go_ret2
            exact ⟨rfl, HBW.out.trans HB2.out⟩
          · have d0 : decide ((16384 : Int) < (bl : Int)) = false := by simp; omega
            clear hmz hzv hcell0 hc hE hnx hbl hble hbw hbox hlen
            go_wp2_with (first
              | (go_at_call 37; (with_reducible refine (put5 m E HE.out w.heap.size w.heap.size (byL (l.take k)) wr HMZ.out HBX.out (Nat.le_refl _) HLEN.out hsz).mono ?_); rintro e w2 ⟨rfl, hb2, v2, hg2, hown2⟩; obtain ⟨A2, k2, rfl⟩ := own_form hown2; have HG2 := Lib.hid hg2; have HO2 := Lib.hid hown2; have HB2 := Lib.hid hb2; have hc2 := cell_of_one hg2; rw [HBL.out] at hc2; clear hg2 hown2 hb2)
              | fail)
            go_roundg (gk - 1)
            case rel =>
              have hb3 := HBW.out.trans HB2.out
              exact ⟨k + 1, by omega, by go_num, hb3, ⟨_, HG2.out, by rw [HNX.out]; exact HO2.out⟩, by rw [HNX.out, HBL.out]; omega, hb3.size⟩
            case measure => omega
        · obtain rfl : n = k := by omega
          have htk : l.take n = l := List.take_of_length_le (by rw [HN.out]; omega)
          rw [htk] at hbox hlen
          obtain ⟨v2, hg2, hown2⟩ := hbox
          obtain ⟨A2, k2, rfl⟩ := own_form hown2
          have hq0 := HQ.out
          rw [ofR_ok l HA.out (by omega)] at hq0
          obtain ⟨rfl, rfl⟩ : (⟨(byL l).toArray⟩ : ByteArray) = t ∧ (0 : Int) = q := by cases hq0; exact ⟨rfl, rfl⟩
          obtain ⟨bl, hbl⟩ : ∃ bl, (byL l).length = bl := ⟨_, rfl⟩
          have hc2 := cell_of_one hg2
          rw [hbl] at hc2
          have cv := conv_str (P := Tryd.prog) (n := bl) (c := k2) (RdA.of_own hown2).1 hbl Tryd.underlying22 Tryd.underlying5 Tryd.underlying9
          rw [hbl] at hown2
          clear hbw hg2 hown2 hq0 hbl HQ hlen htk HBX
          go_wp2_with fail
          go_ret2
          exact ⟨rfl, HBW.out⟩
end Hx
end Go.Proofs.YtjdeomlpipdopaaDoor
