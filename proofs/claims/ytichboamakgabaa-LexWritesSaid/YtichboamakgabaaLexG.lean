/-
  The document's own lex: Written.
-/
import Derived.Test.YtichboamakgabaaLexJ
import Derived.Test.YtichboamakgabaaEscR
import Derived.Deep.RegionHeld3
namespace Go.Proofs.Ytichboamakgabaa
open Go.RowKit
namespace Hx
open Lx Tx Nmb Es
set_option linter.unusedVariables false
theorem ba_app (a b : ByteArray) : (a ++ b).data.toList = a.data.toList ++ b.data.toList := by simp
theorem bel_in9 {w w' w0 : World} (h0 : Below w0.heap.size w0 w) (h : Below w.heap.size w w') : Below w0.heap.size w0 w' := h0.trans (h.mono h0.size)
set_option maxHeartbeats 4000000 in
set_option maxRecDepth 100000 in
theorem written_4 (t : Tk) (x u : ByteArray) (A : Option Addr) (cp : Nat) (w : World) (ht : TkAt t x u A cp w) (hk : t.kind = 4) (s : ByteArray) (hs : s.data.toList = writeT t) :
    Calls Try.prog 15 #[TkV t x u A cp] w fun e w' => e = .returned (.string s) ∧ Below w.heap.size w w' := by
  have HB : Hid (∀ o, Below w.heap.size w (w.alloc o)) := Lib.hid fun o => (Below.refl _ _).alloc (Nat.le_refl _) o
  have HU : Hid (u.size ≤ 1000000) := ht.us
  have HW : Hid (escS false u = s) := Lib.hid (ba_x (by
    rw [hs]
    unfold writeT
    rw [if_pos hk, ← ht.text]
    rfl))
  unfold TkV
  rw [hk]
  clear ht hs hk
  go_enter Try.func15, Try.ntmps15
  go_wp2_with (first
    | (go_at_call 25; (with_reducible refine (rwritten8 u s false _ HU.out HW.out).mono ?_); rintro e1 w1 ⟨rfl, hb1⟩)
    | fail)
  go_ret
  exact ⟨rfl, stp (HB.out _) hb1⟩
set_option maxHeartbeats 4000000 in
set_option maxRecDepth 100000 in
theorem written_2 (t : Tk) (x u : ByteArray) (A : Option Addr) (cp : Nat) (w : World) (ht : TkAt t x u A cp w) (hk : t.kind = 2) (s : ByteArray) (hs : s.data.toList = writeT t) :
    Calls Try.prog 15 #[TkV t x u A cp] w fun e w' => e = .returned (.string s) ∧ Below w.heap.size w w' := by
  have hxs : x.size ≤ 1000000 := ht.ns
  have HB : Hid (∀ o, Below w.heap.size w (w.alloc o)) := Lib.hid fun o => (Below.refl _ _).alloc (Nat.le_refl _) o
  have hw : (⟨#[60, 47]⟩ : ByteArray) ++ x ++ ⟨#[62]⟩ = s := ba_x (by
    rw [hs, ba_app, ba_app]
    unfold writeT
    rw [if_neg (by omega), if_pos hk, ht.name]
    simp)
  subst hw
  unfold TkV
  rw [hk]
  clear ht hs hk
  go_enter Try.func15, Try.ntmps15
  go_wp2_with fail
  go_ret
  exact ⟨rfl, HB.out _⟩
set_option maxHeartbeats 8000000 in
set_option maxRecDepth 100000 in
theorem written_tag (t : Tk) (x u : ByteArray) (A : Option Addr) (cp : Nat) (w : World) (ht : TkAt t x u A cp w) (hk4 : t.kind ≠ 4) (hk2 : t.kind ≠ 2) (s : ByteArray) (hs : s.data.toList = writeT t) :
    Calls Try.prog 15 #[TkV t x u A cp] w fun e w' => e = .returned (.string s) ∧ Below w.heap.size w w' := by
  have hxs : x.size ≤ 1000000 := ht.ns
  have HB : Hid (∀ o, Below w.heap.size w (w.alloc o)) := Lib.hid fun o => (Below.refl _ _).alloc (Nat.le_refl _) o
  obtain ⟨n, hn⟩ : ∃ n, t.attrs.length = n := ⟨_, rfl⟩
  obtain ⟨z, hz⟩ : ∃ z : Int, (t.kind : Int) = z := ⟨_, rfl⟩
  have g4 : ¬ z = 4 := by omega
  have g2 : ¬ z = 2 := by omega
  have q4 : (z == 4) = false := by simpa using g4
  have q2 : (z == 2) = false := by simpa using g2
  have hnm : n ≤ 1000000 := by rw [← hn]; exact ht.al
  have HNL := Lib.hid hn
  have HR : Hid (∀ W, Below w.heap.size w W → RdC PrC W W.heap.size A t.attrs) := Lib.hid fun W hW => (ht.on hW).attrs
  have HSZ := Lib.hid ht.sz
  have HS : Hid (s.data.toList = 60 :: (t.name ++ (t.attrs.flatMap writeA ++ (if z = 3 then [47, 62] else [62])))) := Lib.hid (by
    rw [hs]
    unfold writeT
    rw [if_neg hk4, if_neg hk2]
    congr 3
    by_cases h3 : t.kind = 3
    · rw [if_pos h3, if_pos (by omega)]
    · rw [if_neg h3, if_neg (by omega)])
  have HX := Lib.hid ht.name
  unfold TkV
  rw [hz, hn]
  clear ht hs hz hn hk4 hk2 g4 g2
  go_enter Try.func15, Try.ntmps15
  go_wp2_with fail
  obtain ⟨wb, hwb⟩ : ∃ wb : World, w.alloc (.cells #[.int .u8 z, .string x, .slice A n cp, .string u] 26) = wb := ⟨_, rfl⟩
  have HBB : Hid (Below w.heap.size w wb) := Lib.hid (hwb ▸ HB.out _)
  have HBL : Hid (w.heap.size < wb.heap.size) := Lib.hid (by rw [← hwb]; simp)
  have HB0 : Hid (wb.cell? ⟨w.heap.size, 0, none⟩ = some (.int .u8 z)) := Lib.hid (by rw [← hwb]; simp)
  have HB2 : Hid (wb.cell? ⟨w.heap.size, 2, none⟩ = some (.slice A n cp)) := Lib.hid (by rw [← hwb]; simp)
  rw [hwb]
  clear hwb
  go_loopg [3, 4] n (fun gg vs vi wr => ∃ (k : Nat) (y : ByteArray), k + gg = n ∧ vi = .int .i64 k ∧ vs = .string y ∧ Hid (y.data.toList = 60 :: (t.name ++ (t.attrs.take k).flatMap writeA)) ∧ y.size ≤ 1000001 + k * 8000000 ∧ Below wb.heap.size wb wr)
  case atStart => exact ⟨0, _, by omega, rfl, rfl, Lib.hid (by rw [ba_app, HX.out]; simp), by rw [← ba_l, ba_app, List.length_append, ba_l x]; show 1 + x.size ≤ _; omega, Below.refl _ _⟩
  case round =>
    obtain ⟨k, y, hk, rfl, rfl, hy, hys, hbw⟩ := hrel
    have HBW := Lib.hid hbw
    have hbx : w.heap.size < wr.heap.size := Nat.lt_of_lt_of_le HBL.out hbw.size
    have c2 : wr.cell? ⟨w.heap.size, 2, none⟩ = some (.slice A n cp) := (hbw.cell (p := ⟨w.heap.size, 2, none⟩) HBL.out).trans HB2.out
    have c0 : wr.cell? ⟨w.heap.size, 0, none⟩ = some (.int .u8 z) := (hbw.cell (p := ⟨w.heap.size, 0, none⟩) HBL.out).trans HB0.out
    by_cases hlt : k < n
    · have hk1 : k < t.attrs.length := by rw [HNL.out]; exact hlt
      obtain ⟨b0, off, rfl, hbB, hc⟩ := (HR.out wr (bel_in9 HBB.out hbw)) (by omega)
      obtain ⟨cs, ⟨nm, vl, rfl, hnm2, hvl⟩, hcell⟩ := hc k hk1
      have d0 : wr.cell? ⟨b0, off + k * 2, none⟩ = some (.string nm) := hcell 0 (by simp)
      have d1 : wr.cell? ⟨b0, off + k * 2 + 1, none⟩ = some (.string vl) := hcell 1 (by simp)
      have hz2 := HSZ.out _ (List.getElem_mem hk1)
      rw [← hvl, ← hnm2, ba_l, ba_l] at hz2
      have HVS := Lib.hid hz2.2
      have hnms : nm.size ≤ 1000000 := hz2.1
      obtain ⟨ev, hev⟩ : ∃ ev, escS true vl = ev := ⟨_, rfl⟩
      have HEV := Lib.hid hev
      have hevs : ev.size ≤ 6000000 := by rw [← hev]; have := (escS_size true vl).2; have := HVS.out; omega
      have hys2 : y.size ≤ 8000001000001 := by omega
      have hnew : (y ++ (((⟨#[32]⟩ : ByteArray) ++ nm ++ ⟨#[61, 34]⟩) ++ ev ++ ⟨#[34]⟩)).size ≤ 1000001 + (k + 1) * 8000000 := by
        rw [← ba_l]
        simp only [ba_app, List.length_append, ba_l]
        show y.size + (1 + nm.size + 2 + ev.size + 1) ≤ _
        omega
      have l1 : ¬ 9223372036854775807 < 1 + nm.size := by omega
      have l2 : ¬ 9223372036854775807 < 1 + nm.size + 2 := by omega
      have l3 : ¬ 9223372036854775807 < 1 + nm.size + 2 + ev.size := by omega
      have l4 : ¬ 9223372036854775807 < 1 + nm.size + 2 + ev.size + 1 := by omega
      have l5 : ¬ 9223372036854775807 < y.size + (1 + nm.size + 2 + ev.size + 1) := by omega
      have bk : (0 : Int) ≤ (k : Int) ∧ (k : Int) < (n : Int) := by omega
      have HNX : Hid ((y ++ (((⟨#[32]⟩ : ByteArray) ++ nm ++ ⟨#[61, 34]⟩) ++ ev ++ ⟨#[34]⟩)).data.toList = 60 :: (t.name ++ (t.attrs.take (k + 1)).flatMap writeA)) := Lib.hid (by
        have hevl : ev.data.toList = escL true (t.attrs[k]'hk1).value := by rw [← hev, ← hvl]; rfl
        rw [ba_app, ba_app, ba_app, ba_app, ba_app, hy.out, hnm2, hevl, List.take_succ_eq_append_getElem hk1, List.flatMap_append]
        simp [writeA])
      have HNS := Lib.hid hnew
      clear hbw hc hcell hnm2 hvl hz2 hev hy hnew
      go_wp2_with fail
      go_region_held3 (fun w' => w'.cell? ⟨w.heap.size, 2, none⟩ = some (.slice (some ⟨b0, off, none⟩) n cp) ∧ w'.cell? ⟨b0, off + k * 2, none⟩ = some (.string nm) ∧ w'.cell? ⟨b0, off + k * 2 + 1, none⟩ = some (.string vl)) (first | go_keep | exact ⟨(hb1.cell (p := ⟨w.heap.size, 2, none⟩) hbx).trans c2, (hb1.cell hbB).trans d0, (hb1.cell hbB).trans d1⟩) ((first
        | (go_at_call 25; (with_reducible refine (rwritten8 vl ev true _ HVS.out HEV.out).mono ?_); rintro e w1 ⟨rfl, hb1⟩)))
      go_wp2_with fail
      go_roundg (gk - 1)
      case rel => exact ⟨k + 1, _, by omega, by go_num, rfl, HNX, HNS.out, stp HBW.out.drew hb1⟩
      case measure => omega
    · obtain rfl : n = k := by omega
      have htk : t.attrs.take n = t.attrs := List.take_of_length_le (by rw [HNL.out]; exact Nat.le_refl _)
      rw [htk] at hy
      by_cases h3 : z = 3
      · have q3 : (z == 3) = true := by simpa using h3
        obtain rfl : y ++ (⟨#[47, 62]⟩ : ByteArray) = s := ba_x (by rw [HS.out, ba_app, hy.out, if_pos h3]; simp)
        clear hy htk HS HR HSZ HX
        go_wp2_with fail
        go_ret
        exact ⟨rfl, bel_in9 HBB.out HBW.out⟩
      · have q3 : (z == 3) = false := by simpa using h3
        obtain rfl : y ++ (⟨#[62]⟩ : ByteArray) = s := ba_x (by rw [HS.out, ba_app, hy.out, if_neg h3]; simp)
        clear hy htk HS HR HSZ HX
        go_wp2_with fail
        go_ret
        exact ⟨rfl, bel_in9 HBB.out HBW.out⟩
theorem rwrit9 (t : Tk) (x u : ByteArray) (A : Option Addr) (cp : Nat) (w : World) (ht : TkAt t x u A cp w) (s : ByteArray) (hs : s.data.toList = writeT t) :
    Calls Try.prog 15 #[TkV t x u A cp] w fun e w' => e = .returned (.string s) ∧ Below w.heap.size w w' := by
  by_cases h4 : t.kind = 4
  · exact written_4 t x u A cp w ht h4 s hs
  by_cases h2 : t.kind = 2
  · exact written_2 t x u A cp w ht h2 s hs
  exact written_tag t x u A cp w ht h4 h2 s hs
end Hx
end Go.Proofs.Ytichboamakgabaa
