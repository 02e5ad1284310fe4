/-
  The contract of hex.Put, where the texts on words lie beside it.
-/
import Derived.Test.YtjdeomlpipdopaaDoorWordC
import Derived.ChangeAlike
import Derived.RegionTactic
import Derived.IntWalk
namespace Go.Proofs.YtjdeomlpipdopaaDoor
open Go.RowKit
namespace Hx

/-- The digits' text. -/
def DG : ByteArray := ⟨#[48, 49, 50, 51, 52, 53, 54, 55, 56, 57, 97, 98, 99, 100, 101, 102]⟩
/-- A number's digit. -/
def hx (n : Nat) : UInt8 := if n < 10 then (48 + n).toUInt8 else (87 + n).toUInt8
theorem hx_at : ∀ j : Nat, (h : j < DG.size) → DG[j]'h = hx j := by
  intro j h
  have all : ∀ j : Fin 16, DG[j.val]'(by have := j.isLt; exact this) = hx j.val := by decide
  exact all ⟨j, h⟩

set_option maxRecDepth 100000 in
set_option maxHeartbeats 1000000 in
/-- hex.pair: a byte's two digits. -/
theorem pair_any (c : UInt8) (w : World) :
    Calls Tryd.prog 36 #[.int .u8 c.toNat] w fun e w' => e = .returned (.agg #[.int .u8 (hx (c.toNat / 16)).toNat, .int .u8 (hx (c.toNat % 16)).toNat]) ∧ Below w.heap.size w w' := by
  have hc := c.toNat_lt
  have a : ∀ h, ((⟨#[48, 49, 50, 51, 52, 53, 54, 55, 56, 57, 97, 98, 99, 100, 101, 102]⟩ : ByteArray)[c.toNat / 16]'h) = hx (c.toNat / 16) := hx_at (c.toNat / 16)
  have b : ∀ h, ((⟨#[48, 49, 50, 51, 52, 53, 54, 55, 56, 57, 97, 98, 99, 100, 101, 102]⟩ : ByteArray)[c.toNat % 16]'h) = hx (c.toNat % 16) := hx_at (c.toNat % 16)
  have e1 : IntKind.u8.wrap ((c.toNat : Int) / 16) = (c.toNat : Int) / 16 := IntWalk.u8_in _ (by omega)
  have e2 : IntKind.u8.wrap ((c.toNat : Int) % 16) = (c.toNat : Int) % 16 := IntWalk.u8_in _ (by omega)
  have e3 : (c.toNat : Int) / 16 < 16 := by omega
  have e4 : (c.toNat : Int) % 16 < 16 := by omega
  have e5 : ((c.toNat : Int) / 16).toNat = c.toNat / 16 := by omega
  have e6 : ((c.toNat : Int) % 16).toNat = c.toNat % 16 := by omega
  go_enter Tryd.func36, Tryd.ntmps36
  go_wp2
  go_region
  go_wp2
  refine bodyPost_ret (v := .agg #[.int .u8 (hx (c.toNat / 16)).toNat, .int .u8 (hx (c.toNat % 16)).toNat]) (by simp [results, Tryd.results36, go_sem]) rfl ⟨rfl, ?_⟩
  exact ((Below.refl _ _).alloc (Nat.le_refl _) _).drew
def two (c : UInt8) : List UInt8 := [hx (c.toNat / 16), hx (c.toNat % 16)]
/-- The digits of bytes. -/
def putL (l : List UInt8) : List UInt8 := l.flatMap two
theorem putL_length (l : List UInt8) : (putL l).length = 2 * l.length := by
  induction l with
  | nil => rfl
  | cons a l ih => simp only [putL, List.flatMap_cons, List.length_append, List.length_cons] at *; simp only [two, List.length_cons, List.length_nil]; omega
theorem putL_append (a b : List UInt8) : putL (a ++ b) = putL a ++ putL b := by simp [putL]
theorem putL_take (l : List UInt8) (k : Nat) (h : k < l.length) : putL (l.take (k + 1)) = putL (l.take k) ++ two (l[k]'h) := by
  rw [List.take_succ_eq_append_getElem h, putL_append]; simp [putL]

set_option maxHeartbeats 2000000 in
set_option maxRecDepth 100000 in
/-- hex.Put. -/
theorem put_any (A : Option Addr) (n cp : Nat) (l : List UInt8) (w : World) (hr : RdA w w.heap.size A l) (hn : l.length = n) (hm : n ≤ 1000000) :
    Calls Tryd.prog 18 #[.slice A n cp] w fun e w' => e = .returned (.string ⟨(putL l).toArray⟩) ∧ Below w.heap.size w w' := by
  obtain ⟨i0, hi, hz0, hz1, hz2⟩ := info_parts info5
  have HI := Lib.hid hi
  have HZ0 := Lib.hid hz0
  have HZ1 := Lib.hid hz1
  have HZ2 := Lib.hid hz2
  clear hi hz0 hz1 hz2
  have HN := Lib.hid hn
  have HR := Lib.hid hr
  clear hn hr
  go_enter Tryd.func18, Tryd.ntmps18
  go_wp2_with (at_make; refine wpList_make_own _ rfl _ _ 22 rfl w.heap.size 5 i0 (.int .u8 0) 1 Tryd.underlying22 HI.out HZ0.out HZ1.out .i64 .i64 _ (2 * n) rfl rfl ?c1 ?c2 ?c3 ?c4 ?_)
  case c1 => omega
  case c2 => rw [HZ2.out]; omega
  case c3 => unfold maxLen; omega
  case c4 => exact Nat.le_refl _
  intro w1 hown hgr
  have hb0 : Below w.heap.size w w1 := (Below.refl _ _).grown hgr (Nat.le_refl _) (by simp)
  have HO := Lib.hid hown
  clear hown hgr
  go_wp2
  go_loopw [3, 13] (fun v i wr => ∃ k : Nat, k ≤ n ∧ i = .int .i64 k ∧ wr.ownsRow w.heap.size 5 1 v (2 * k) (Lib.byteCells (putL (l.take k))) ∧ Below w.heap.size w wr) (fun _ i _ => n - (intOf i).toNat)
  case atStart => exact ⟨0, Nat.zero_le _, rfl, HO.out, hb0⟩
  case round =>
    clear HO hb0
    obtain ⟨k, hk, rfl, hown, hbw⟩ := hrel
    have HO := Lib.hid hown
    by_cases hlt : k < n
    · obtain ⟨b, off, rfl, hbB, hc⟩ := HR.out (by rw [HN.out]; omega)
      have hk2 : k < l.length := by rw [HN.out]; exact hlt
      have hcell := (hbw.cell (p := ⟨b, off + k, none⟩) hbB).trans (hc k hk2)
      have hsz := hbw.size
      have hpt := Lib.hid (putL_take l k hk2)
      clear hown hc
      go_wp2_with (first
        | (go_at_call 36; refine (pair_any _ _).mono ?_; rintro e w2 ⟨rfl, hb2⟩; have HO2 := Lib.hid (own_below HO.out hb2 (Nat.le_refl _)); have HS2 := hb2.size; have hbw2 := hbw.trans (hb2.mono hbw.size))
        | (at_builtin; (refine wpList_append_own _ rfl _ _ 22 rfl w.heap.size 5 i0 (.int .u8 0) 1 1 Tryd.underlying22 HI.out HZ0.out HZ1.out HZ2.out rfl (by decide) _ _ _ rfl ((HO2.out.alloc _).alloc _) ⟨w2.heap.size + 1, 0, none⟩ 2 2 (Lib.byteCells (two (l[k]'hk2))) rfl rfl ?c1 ?c2 ?c3 ?c4 ?c5 ?_)))
      case c1 =>
        intro j u hj
        have := cell_two_new (w2.alloc (.cells #[.int .u8 (hx ((l[k]'hk2).toNat / 16)).toNat, .int .u8 (hx ((l[k]'hk2).toNat % 16)).toNat] 71)) (.int .u8 (hx ((l[k]'hk2).toNat / 16)).toNat) (.int .u8 (hx ((l[k]'hk2).toNat % 16)).toNat) 5 j u hj
        simpa using this
      case c2 => exact bytes_one _
      case c3 => unfold maxLen; omega
      case c4 => omega
      case c5 => have := hbw2.size; simp; omega
      · intro v3 w3 hown3 hgr3 _
        have HO3 := Lib.hid hown3
        have hbw3 : Below w.heap.size w w3 := ((hbw2.alloc hbw2.size _).alloc (by have := hbw2.size; simp; omega) _).grown hgr3 (by have := hbw2.size; simp; omega) (fun g hg => (HO.out.lt g hg).1)
        clear hown3 hgr3
        go_wp2
        go_roundw
        case rel => exact ⟨k + 1, by omega, by go_num, by rw [hpt.out, Lib.byteCells_append]; exact HO3.out, hbw3⟩
        case measure => simp [intOf]; omega
    · obtain rfl : k = n := by omega
      obtain ⟨A', c', rfl⟩ := own_form hown
      obtain ⟨hrd, hl2⟩ := RdA.of_own hown
      have hcv := fun src hs dst hd => conv_str (P := Tryd.prog) (src := src) (dst := dst) (c := c') hrd hl2 hs Tryd.underlying5 hd
      have hcv2 := hcv 22 Tryd.underlying22 9 Tryd.underlying9
      clear hown hcv hl2 hrd
      go_wp2
      go_ret
      exact ⟨ret_s (by rw [← HN.out, List.take_length]), hbw⟩
end Hx
end Go.Proofs.YtjdeomlpipdopaaDoor
