/-
  Contracts of word.Of and word.Bytes.
-/
import Derived.Test.YtmjcmlaeajglmaaWordB
namespace Go.Proofs.Ytmjcmlaeajglmaa
open Go.RowKit
namespace Hx
open Wd

theorem info5 : (Try.prog.info? 5).map (fun i => (i.zero, i.size, i.bytes)) = some (some (.int .u8 0), 1, 1) := by kernel_rfl
theorem infoW : (Try.prog.info? 35).map (fun i => (i.zero, i.size, i.bytes)) = some (some (.int .u32 0), 1, 4) := by kernel_rfl

set_option maxRecDepth 100000 in
theorem of_many (A : Option Addr) (n cp : Nat) (w : World) (h : 16384 < n) :
    Calls Try.prog 57 #[.slice A n cp] w fun e w' => e = .returned (.tuple #[.slice none 0 0, .int .i64 4]) ∧ Below w.heap.size w w' := by
  have h' : (16384 : Int) < (n : Int) := by omega
  go_enter Try.func57, Try.ntmps57
  go_wp2
  go_ret2
  exact ⟨rfl, Below.refl _ _⟩
set_option maxRecDepth 100000 in
theorem of_arg (A : Option Addr) (n cp : Nat) (w : World) (h : n ≤ 16384) (h4 : n % 4 ≠ 0) :
    Calls Try.prog 57 #[.slice A n cp] w fun e w' => e = .returned (.tuple #[.slice none 0 0, .int .i64 2]) ∧ Below w.heap.size w w' := by
  have h' : decide ((16384 : Int) < (n : Int)) = false := by simp; omega
  have h2 : ((n : Int) % 4 != 0) = true := by simp; omega
  have h3 : ((n : Int) % 4 == 0) = false := by simp; omega
  go_enter Try.func57, Try.ntmps57
  go_wp2
  go_ret2
  exact ⟨rfl, Below.refl _ _⟩

theorem row_zero (b : List UInt8) (n : Nat) {w : World} {base : Nat} {e : TypeId} {v : Value} (h : w.ownsRow base e 1 v n (madeCells #[Value.int .u32 0] n).toList) : w.ownsRow base e 1 v n ((rowW b n 0).map encW) := by
  rw [rowW_zero, List.map_replicate, show encW 0#32 = .int .u32 0 from rfl, ← toList_madeCells_one]
  exact h
theorem of_value (b : List UInt8) (k : Nat) (c : UInt8) : bits BinOp.or IntKind.u32 (((pw b (k / 4) (k % 4) : Nat) : Int) * 256) ((c.toNat : Nat) : Int) = ((256 * pw b (k / 4) (k % 4) + c.toNat : Nat) : Int) := by
  have h1 := pw_lt3 b (k / 4) (k % 4) (by omega)
  have hc := c.toNat_lt
  have h2 : ((pw b (k / 4) (k % 4) : Nat) : Int) * 256 = ((2 ^ 8 * pw b (k / 4) (k % 4) : Nat) : Int) := by omega
  rw [h2, u32_or_nat _ _ (by omega) (by omega), ← Nat.two_pow_add_eq_or_of_lt (by omega)]

theorem row_step {b : List UInt8} {n k : Nat} {c : UInt8} {w : World} {base : Nat} {e : TypeId} {v : Value} (hs : (rowW b n k).set (k / 4) (BitVec.ofNat 32 (256 * pw b (k / 4) (k % 4) + (b.getD k 0).toNat)) = rowW b n (k + 1)) (hd : b.getD k 0 = c)
    (h : w.ownsRow base e 1 v n (((rowW b n k).map encW).set (k / 4) (.int .u32 ((256 * pw b (k / 4) (k % 4) + c.toNat : Nat) : Int)))) : w.ownsRow base e 1 v n ((rowW b n (k + 1)).map encW) := by
  have h1 := pw_lt3 b (k / 4) (k % 4) (by omega)
  have hc := c.toNat_lt
  have e1 : encW (BitVec.ofNat 32 (256 * pw b (k / 4) (k % 4) + c.toNat)) = .int .u32 ((256 * pw b (k / 4) (k % 4) + c.toNat : Nat) : Int) := by
    unfold encW
    rw [BitVec.toNat_ofNat, Nat.mod_eq_of_lt (by omega)]
  rw [← hs, hd, List.map_set, e1]
  exact h
/-- What word.Of answers of fours of bytes. -/
def OfOkN (b : List UInt8) (q : Nat) (w : World) (e : Ending) (w' : World) : Prop :=
  Below w.heap.size w w' ∧ ∃ A c, e = .returned (.tuple #[.slice A q c, .int .i64 0]) ∧ RdW w' w'.heap.size A (rowW b q (4 * q))
def OfOk (b : List UInt8) (w : World) (e : Ending) (w' : World) : Prop :=
  Below w.heap.size w w' ∧ ∃ A c, e = .returned (.tuple #[.slice A (wordL b).length c, .int .i64 0]) ∧ RdW w' w'.heap.size A (wordL b)

set_option maxHeartbeats 2000000 in
set_option maxRecDepth 100000 in
theorem of_okN (A : Option Addr) (n cp : Nat) (b : List UInt8) (w : World) (hr : RdA w w.heap.size A b) (hn : b.length = n) (hm : n ≤ 16384) (h4 : n % 4 = 0) :
    Calls Try.prog 57 #[.slice A n cp] w (OfOkN b (n / 4) w) := by
  obtain ⟨i0, hi, hz0, hz1, hz2⟩ := info_parts infoW
  have HI := Lib.hid hi
  have HZ0 := Lib.hid hz0
  have HZ1 := Lib.hid hz1
  have HZ2 := Lib.hid hz2
  clear hi hz0 hz1 hz2
  have HN := Lib.hid hn
  have HR := Lib.hid hr
  clear hn hr
  have h' : decide ((16384 : Int) < (n : Int)) = false := by simp; omega
  have h2 : ((n : Int) % 4 != 0) = false := by simp; omega
  have h3 : ((n : Int) % 4 == 0) = true := by simp; omega
  have H4 := Lib.hid h4
  clear h4
  go_enter Try.func57, Try.ntmps57
  go_wp2_with (at_make; refine wpList_make_full _ rfl _ _ 40 rfl w.heap.size 35 i0 (.int .u32 0) 1 Try.underlying40 HI.out HZ0.out HZ1.out .i64 .i64 _ _ (n / 4) rfl rfl rfl rfl ?c1 ?c2 (Nat.le_refl _) ?_)
  case c1 => rw [HZ2.out]; omega
  case c2 => unfold maxLen; omega
  intro w1 hown hgr
  have hb0 : Below w.heap.size w w1 := (Below.refl _ _).grown hgr (Nat.le_refl _) (by simp)
  have HO := Lib.hid (row_zero b (n / 4) hown)
  clear hown hgr
  go_wp2
  go_loopw [20] (fun i wr => ∃ k : Nat, k ≤ n ∧ i = .int .i64 k ∧ wr.ownsRow w.heap.size 35 1 (.slice (some ⟨w.heap.size, 0, none⟩) (n / 4) (n / 4)) (n / 4) ((rowW b (n / 4) k).map encW) ∧ Below w.heap.size w wr) (fun i _ => n - (intOf i).toNat)
  case atStart => exact ⟨0, Nat.zero_le _, rfl, HO.out, hb0⟩
  case round =>
    clear HO hb0
    obtain ⟨k, hk, rfl, hown, hbw⟩ := hrel
    have HO := Lib.hid hown
    by_cases hlt : k < n
    · obtain ⟨bb, off, rfl, hbB, hc⟩ := HR.out (by rw [HN.out]; omega)
      have hk2 : k < b.length := by rw [HN.out]; exact hlt
      have h4' := H4.out
      have hq : k / 4 < n / 4 := by omega
      clear h4'
      have hcell := (hbw.cell (p := ⟨bb, off + k, none⟩) hbB).trans (hc k hk2)
      have hlen : k / 4 < ((rowW b (n / 4) k).map encW).length := by rw [List.length_map, rowW_length]; exact hq
      have hrow : wr.cell? ⟨w.heap.size, k / 4, none⟩ = some (.int .u32 ((pw b (k / 4) (k % 4) : Nat) : Int)) := by
        rw [hown.cellAt (k / 4) (by omega), List.getElem?_eq_getElem hlen, List.getElem_map, rowW_get b (n / 4) k hq]
        have := pw_lt4 b (k / 4) (k % 4) (by omega)
        simp [encW]
        omega
      have hfz := hown.frozenAt (k / 4)
      have hst := Lib.hid (fun u => hown.stored (k / 4) u)
      have hd : b.getD k 0 = b[k]'hk2 := by rw [List.getD_eq_getElem?_getD, List.getElem?_eq_getElem hk2]; rfl
      have HS := Lib.hid (rowW_set b (n / 4) k)
      have HD := Lib.hid hd
      have HV := Lib.hid (of_value b k (b[k]'hk2))
      have hp := pw_lt3 b (k / 4) (k % 4) (by omega)
      have hsz := hbw.size
      have hcl := (b[k]'hk2).toNat_lt
      clear hown hc hd hlen
      go_wp2
      go_roundw
      case rel => exact ⟨k + 1, hlt, by go_num, by rw [HV.out]; exact row_step HS.out HD.out (hst.out _).1, hbw.grown (hst.out _).2 hbw.size (fun g hg => by cases hg; exact Nat.le_refl _)⟩
      case measure => simp [intOf]; omega
    · obtain rfl : k = n := by omega
      obtain ⟨hrd, hl2⟩ := RdG.of_own hown
      have HRD := Lib.hid hrd
      clear hown hrd hl2
      go_wp2
      go_ret2
      exact ⟨hbw, _, _, rfl, by rw [show 4 * (k / 4) = k by have := H4.out; omega]; exact HRD.out⟩
/-- word.Of of fours. -/
theorem of_ok (A : Option Addr) (n cp : Nat) (b : List UInt8) (w : World) (hr : RdA w w.heap.size A b) (hn : b.length = n) (hm : n ≤ 16384) (h4 : n % 4 = 0) :
    Calls Try.prog 57 #[.slice A n cp] w (OfOk b w) :=
  (of_okN A n cp b w hr hn hm h4).mono fun e w' ⟨hb, A', c, he, hr'⟩ => by
    subst hn
    rw [rowW_full b _ rfl] at hr'
    exact ⟨hb, A', c, by rw [wordL_length]; exact he, hr'⟩

/-- The r-th byte of a word. -/
def wb (x : W32) (r : Nat) : UInt8 := (x.toNat / 2 ^ (8 * (3 - r)) % 256).toUInt8
theorem wb_int (x : W32) (r : Nat) : (x.toNat : Int) / 2 ^ (8 * (3 - r)) % 256 = ((wb x r).toNat : Int) := by
  have e : (x.toNat : Int) / 2 ^ (8 * (3 - r)) = ((x.toNat / 2 ^ (8 * (3 - r)) : Nat) : Int) := by simp
  unfold wb
  rw [e, u8_nat _ (by omega)]
  simp
theorem w4_take (x : W32) (r : Nat) (h : r < 4) : (w4 x).take (r + 1) = (w4 x).take r ++ [wb x r] := by
  have hx := x.isLt
  rcases (show r = 0 ∨ r = 1 ∨ r = 2 ∨ r = 3 by omega) with rfl | rfl | rfl | rfl
  · show [(x.toNat / 16777216).toUInt8] = [(x.toNat / 16777216 % 256).toUInt8]
    rw [Nat.mod_eq_of_lt (by omega)]
  · rfl
  · rfl
  · show _ = _ ++ [(x.toNat / 1 % 256).toUInt8]
    rw [Nat.div_one]
    rfl

theorem row_four {l : List W32} {k : Nat} {x : W32} {w : World} {base : Nat} {e : TypeId} {v : Value} (hpt : bytesL (l.take (k + 1)) = bytesL (l.take k) ++ w4 x) (h : w.ownsRow base e 1 v (4 * k + 4) (Lib.byteCells (bytesL (l.take k) ++ (w4 x).take 4))) :
    w.ownsRow base e 1 v (4 * (k + 1)) (Lib.byteCells (bytesL (l.take (k + 1)))) := by
  rw [hpt]
  exact h

set_option maxHeartbeats 4000000 in
set_option maxRecDepth 100000 in
/-- word.Bytes. -/
theorem bytes_any (A : Option Addr) (n cp : Nat) (l : List W32) (w : World) (hr : RdW w w.heap.size A l) (hn : l.length = n) (hm : n ≤ 100000) :
    Calls Try.prog 17 #[.slice A n cp] w fun e w' => Below w.heap.size w w' ∧ ∃ A' c, e = .returned (.slice A' (4 * n) c) ∧ RdA w' w'.heap.size A' (bytesL l) := by
  obtain ⟨i0, hi, hz0, hz1, hz2⟩ := info_parts info5
  have HI := Lib.hid hi
  have HZ0 := Lib.hid hz0
  have HZ1 := Lib.hid hz1
  have HZ2 := Lib.hid hz2
  clear hi hz0 hz1 hz2
  have HN := Lib.hid hn
  have HR := Lib.hid hr
  clear hn hr
  go_enter Try.func17, Try.ntmps17
  go_wp2_with (at_make; refine wpList_make_own _ rfl _ _ 22 rfl w.heap.size 5 i0 (.int .u8 0) 1 Try.underlying22 HI.out HZ0.out HZ1.out .i64 .i64 _ (4 * n) rfl rfl ?c1 ?c2 ?c3 ?c4 ?_)
  case c1 => omega
  case c2 => rw [HZ2.out]; omega
  case c3 => unfold maxLen; omega
  case c4 => exact Nat.le_refl _
  intro w1 hown hgr
  have hb0 : Below w.heap.size w w1 := (Below.refl _ _).grown hgr (Nat.le_refl _) (by simp)
  have HO := Lib.hid hown
  clear hown hgr
  go_wp2
  go_loopw [3, 13] (fun v i wr => ∃ k : Nat, k ≤ n ∧ i = .int .i64 k ∧ wr.ownsRow w.heap.size 5 1 v (4 * k) (Lib.byteCells (bytesL (l.take k))) ∧ Below w.heap.size w wr) (fun _ i _ => n - (intOf i).toNat)
  case atStart => exact ⟨0, Nat.zero_le _, rfl, HO.out, hb0⟩
  case round =>
    clear HO hb0
    obtain ⟨k, hk, rfl, hown, hbw⟩ := hrel
    have HO := Lib.hid hown
    by_cases hlt : k < n
    · obtain ⟨bb, off, rfl, hbB, hc⟩ := HR.out (by rw [HN.out]; omega)
      have hk2 : k < l.length := by rw [HN.out]; exact hlt
      have hcell : wr.cell? ⟨bb, off + k, none⟩ = some (.int .u32 ((l[k]'hk2).toNat : Int)) := (hbw.cell (p := ⟨bb, off + k, none⟩) hbB).trans (hc k hk2)
      have hpt := Lib.hid (bytesL_take l k hk2)
      obtain ⟨x, hx⟩ : ∃ x, l[k]'hk2 = x := ⟨_, rfl⟩
      rw [hx] at hcell hpt
      have hxl : ((x.toNat : Nat) : Int) ≤ 4294967295 := by have := x.isLt; omega
      clear hown hc hx
      obtain ⟨wo, rfl⟩ : ∃ wo : World, wo = wr := ⟨_, rfl⟩
      go_wp2
      go_loopw [3, 17] (fun v i wr => ∃ r : Nat, r ≤ 4 ∧ i = .int .i64 r ∧ wr.ownsRow w.heap.size 5 1 v (4 * k + r) (Lib.byteCells (bytesL (l.take k) ++ (w4 x).take r)) ∧ Below w.heap.size w wr) (fun _ i _ => 4 - (intOf i).toNat)
      case atStart => exact ⟨0, by omega, rfl, by simpa using HO.out, hbw⟩
      case round =>
        obtain ⟨r, hr, rfl, hown, hbw2⟩ := hrel
        have HO2 := Lib.hid hown
        clear hown
        by_cases hr4 : r < 4
        · have e1 : (x.toNat : Int) / 2 ^ (8 * (3 - r)) % 256 = ((wb x r).toNat : Int) := wb_int x r
          have HT := Lib.hid (w4_take x r hr4)
          go_wp2_with (at_builtin; (refine wpList_append_own _ rfl _ _ 22 rfl w.heap.size 5 i0 (.int .u8 0) 1 1 Try.underlying22 HI.out HZ0.out HZ1.out HZ2.out rfl (by decide) _ _ _ rfl (HO2.out.alloc _) ⟨wr.heap.size, 0, none⟩ 1 1 (Lib.byteCells [wb x r]) rfl rfl ?c1 ?c2 ?c3 ?c4 ?c5 ?_))
          case c1 =>
            intro j u hj
            have := cell_one_new wr (.int .u8 (wb x r).toNat) 5 j u hj
            simpa using this
          case c2 => exact bytes_one _
          case c3 => unfold maxLen; omega
          case c4 => omega
          case c5 => have := hbw2.size; simp; omega
          · intro v3 w3 hown3 hgr3 _
            have HO3 := Lib.hid hown3
            have hbw3 : Below w.heap.size w w3 := (hbw2.alloc hbw2.size _).grown hgr3 (by have := hbw2.size; simp; omega) (fun g hg => (HO2.out.lt g hg).1)
            clear hown3 hgr3
            go_wp2
            go_roundw
            case rel => exact ⟨r + 1, by omega, by go_num, by rw [HT.out, ← List.append_assoc, Lib.byteCells_append]; exact HO3.out, hbw3⟩
            case measure => simp [intOf]; omega
        · obtain rfl : r = 4 := by omega
          have HO3 := Lib.hid (row_four hpt.out HO2.out)
          clear HO2
          go_wp2
          go_roundw
          case rel => exact ⟨k + 1, by omega, by go_num, HO3.out, hbw2⟩
          case measure => simp [intOf]; omega
    · obtain rfl : k = n := by omega
      obtain ⟨A', c', rfl⟩ := own_form hown
      obtain ⟨hrd, hl2⟩ := RdA.of_own hown
      have HRD := Lib.hid hrd
      clear hown hrd hl2
      go_wp2
      go_ret
      exact ⟨hbw, _, _, rfl, by have := HRD.out; rw [← HN.out, List.take_length] at this; exact this⟩
end Hx
end Go.Proofs.Ytmjcmlaeajglmaa
