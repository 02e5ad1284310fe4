/-
  The contract of hex.Get.
-/
import Derived.Test.YtmgdhkgkjimmoaaHexC
namespace Go.Proofs.Ytmgdhkgkjimmoaa
open Go.RowKit
namespace Hx

def bt (l : List UInt8) (i : Nat) : UInt8 := (16 * nm (l.getD (2 * i) 0).toNat + nm (l.getD (2 * i + 1) 0).toNat).toNat.toUInt8
/-- The first k bytes whose digits l is. -/
def getL (l : List UInt8) (k : Nat) : List UInt8 := (List.range k).map (bt l)
theorem getL_length (l : List UInt8) (k : Nat) : (getL l k).length = k := by simp [getL]
theorem getL_succ (l : List UInt8) (k : Nat) : getL l (k + 1) = getL l k ++ [bt l k] := by simp [getL, List.range_succ]
theorem nm_bd (c : Int) : 0 ≤ nm c ∧ nm c ≤ 15 := by
  unfold nm
  split
  · omega
  · split <;> omega
theorem bt_int (l : List UInt8) (i : Nat) : ((bt l i).toNat : Int) = 16 * nm (l.getD (2 * i) 0).toNat + nm (l.getD (2 * i + 1) 0).toNat := by
  have a := nm_bd (l.getD (2 * i) 0).toNat
  have b := nm_bd (l.getD (2 * i + 1) 0).toNat
  unfold bt
  rw [Nat.toUInt8, UInt8.toNat_ofNat']
  omega

def okS (s : ByteArray) : Bool := decide (s.size % 2 = 0) && allD s.data.toList

theorem own_iterAt {w : World} {base : Nat} {e : TypeId} {v : Value} {n : Nat} {xs : List Value} (h : w.ownsRow base e 1 v n xs) {k : Nat} {s : ByteArray} {p : Nat} (hk : w.heap[k]? = some (.stringIter s p)) (p' : Nat) : (w.iterAt k s p').ownsRow base e 1 v n xs := by
  refine ⟨h.1, ?_⟩
  rcases h.2 with h0 | ⟨g, cap, cur, hv, hb, hg, rest⟩
  · exact .inl h0
  · have hne : g ≠ k := by
      rintro rfl
      rw [hk] at hg
      cases hg
    exact .inr ⟨g, cap, cur, hv, hb, (Lib.iterAt_other w k g s p' hne).trans hg, rest⟩
theorem iter_grown {w w' : World} {base : Nat} {e : TypeId} {v : Value} {n : Nat} {xs : List Value} (h : w.ownsRow base e 1 v n xs) {k : Nat} {s : ByteArray} {p : Nat} (hk : w.heap[k]? = some (.stringIter s p)) (hg : w.grownBy w' v.ownBlock) : w'.heap[k]? = some (.stringIter s p) := by
  rw [hg.block k (Array.getElem?_eq_some_iff.1 hk).1 ?_]
  · exact hk
  · rcases h.2 with ⟨rfl, _⟩ | ⟨g, cap, cur, rfl, _, hh, _⟩
    · simp [Value.ownBlock]
    · simp only [Value.ownBlock]
      intro e
      cases e
      rw [hk] at hh
      cases hh

theorem alloc_at {w : World} {k : Nat} {x : Obj} (h : w.heap[k]? = some x) (o : Obj) : (w.alloc o).heap[k]? = some x := (Below.heap_alloc w o k (Array.getElem?_eq_some_iff.1 h).1).trans h

/-- What hex.Get answers of a text that is not too long. -/
def GetPost (s : ByteArray) (w : World) (e : Ending) (w' : World) : Prop :=
  Below w.heap.size w w' ∧ ((okS s = true ∧ ∃ A c, e = .returned (.tuple #[.slice A (s.size / 2) c, .int .i64 0]) ∧ RdA w' w'.heap.size A (getL s.data.toList (s.size / 2))) ∨
    (okS s = false ∧ e = .returned (.tuple #[.slice none 0 0, .int .i64 10])))

set_option maxRecDepth 100000 in
theorem get_many (s : ByteArray) (w : World) (h : 16384 < s.size) :
    Calls Try.prog 8 #[.string s] w fun e w' => e = .returned (.tuple #[.slice none 0 0, .int .i64 4]) ∧ Below w.heap.size w w' := by
  have h' : (16384 : Int) < (s.size : Int) := by omega
  go_enter Try.func8, Try.ntmps8
  go_wp2
  go_step3
  go_wp2
  rw [Exit.noGoto_ret]
  go_ret2
  exact ⟨rfl, Below.refl _ _⟩

set_option maxHeartbeats 2000000 in
set_option maxRecDepth 100000 in
/-- hex.Get. -/
theorem get_any (s : ByteArray) (w : World) (hm : s.size ≤ 16384) :
    Calls Try.prog 8 #[.string s] w (GetPost s w) := by
  obtain ⟨i0, hi, hz0, hz1, hz2⟩ := info_parts info5
  have HI := Lib.hid hi
  have HZ0 := Lib.hid hz0
  have HZ1 := Lib.hid hz1
  have HZ2 := Lib.hid hz2
  clear hi hz0 hz1 hz2
  have hm1 : decide ((16384 : Int) < (s.size : Int)) = false := by simp; omega
  go_enter Try.func8, Try.ntmps8
  go_wp2
  go_step3
  go_wp2_with (at_make; refine wpList_make_own _ rfl _ _ 22 rfl w.heap.size 5 i0 (.int .u8 0) 1 Try.underlying22 HI.out HZ0.out HZ1.out .i64 .i64 _ (s.size / 2) rfl rfl ?c1 ?c2 ?c3 ?c4 ?_)
  case c1 => omega
  case c2 => rw [HZ2.out]; omega
  case c3 => unfold maxLen; omega
  case c4 => exact Nat.le_refl _
  intro w1 hown hgr
  have hb0 : Below w.heap.size w w1 := (Below.refl _ _).grown hgr (Nat.le_refl _) (by simp)
  have HO := Lib.hid (hown.alloc (.stringIter s 0))
  clear hown hgr
  go_wp2
  go_step3
  go_wp2
  have hK := hb0.size
  go_loopw [4, 5] (fun v g wr => ∃ (pos : Nat) (x : Int), pos ≤ s.size ∧ wr.heap[w1.heap.size]? = some (.stringIter s pos) ∧ wr.ownsRow w.heap.size 5 1 v (pos / 2) (Lib.byteCells (getL s.data.toList (pos / 2))) ∧ Below w.heap.size w wr ∧ allD (s.data.toList.take pos) = true ∧ g = .int .i64 x ∧ Hid (pos % 2 = 1 → x = nm (s.data.toList.getD (pos - 1) 0).toNat) ∧ 0 ≤ x ∧ x ≤ 15) (fun _ _ wr => s.size - wr.iterPos w1.heap.size)
  case atStart => exact ⟨0, 0, Nat.zero_le _, World.iter_heap w1 s 0, HO.out, hb0.alloc hK _, rfl, rfl, fun h => absurd h (by omega), by omega, by omega⟩
  case round =>
    clear HO hb0
    obtain ⟨pos, x, hp, hit, hown, hbw, hall, rfl, HX, hx0, hx1⟩ := hrel
    have hsz : w1.heap.size < wr.heap.size := (Array.getElem?_eq_some_iff.1 hit).1
    have HA := Lib.hid hall
    have HO := Lib.hid hown
    have HP := Lib.hid (iterPos_of hit)
    clear hall
    by_cases hlt : pos < s.size
    · obtain ⟨r, wd, hdec, hd, hnm, hw1⟩ := rune_at s pos hlt
      have hnx : ∀ ty, (Instr.next (.pointer (some ⟨w1.heap.size, 0, none⟩)) true ty).run Try.prog wr = _ := fun ty => Lib.run_next_any_at wr w1.heap.size s pos ty hit hlt
      rw [hdec] at hnx
      have HD := Lib.hid hdec
      clear hdec
      have hnb := nm_bd (s[pos]'hlt).toNat
      cases hdg : dig (s[pos]'hlt)
      · rw [hdg] at hd
        have HG := Lib.hid hdg
        have HR := Lib.hid hd
        have HM := Lib.hid hnm
        have hbw2 := Lib.below_iterAt hbw (k := w1.heap.size) hK s (pos + wd)
        have hsz2 : w1.heap.size < (wr.iterAt w1.heap.size s (pos + wd)).heap.size := by rw [Lib.iterAt_size]; exact hsz
        obtain ⟨A', c', rfl⟩ := own_form hown
        have hne : ((2 * ((pos / 2 : Nat) : Int)) == (s.size : Int)) = false := by simp; omega
        have hne2 : ((2 * ((pos / 2 : Nat) : Int)) != (s.size : Int)) = true := by simp; omega
        clear hdg hd hit hbw hw1 hsz hnm hown
        go_wp2_with (go_at_call 17; refine (number_any _ _).mono ?_; rintro e w2 ⟨rfl, hb1⟩; rw [HR.out, HM.out])
        rw [Exit.noGoto_ret]
        go_ret2
        exact ⟨hbw2.trans (hb1.mono (by omega)), .inr ⟨by unfold okS; rw [not_all s pos hlt HG.out, Bool.and_false], rfl⟩⟩
      · rw [hdg] at hd
        obtain rfl := hw1 hdg
        have HG := Lib.hid hdg
        have HR := Lib.hid hd
        have HM := Lib.hid hnm
        have hit2 := Lib.iterAt_heap wr w1.heap.size s pos (pos + 1) hit
        have hbw2 := Lib.below_iterAt hbw (k := w1.heap.size) hK s (pos + 1)
        have hsz2 : w1.heap.size < (wr.iterAt w1.heap.size s (pos + 1)).heap.size := by rw [Lib.iterAt_size]; exact hsz
        have HO2 := Lib.hid (own_iterAt hown hit (pos + 1))
        have hat : s.data.toList.getD pos 0 = s[pos]'hlt := by
          have h1 : pos < s.data.toList.length := by simpa using hlt
          rw [List.getD_eq_getElem?_getD, List.getElem?_eq_getElem h1]; rfl
        have HAT := Lib.hid hat
        clear hdg hd hit hbw hw1 hsz hnm hown hat
        by_cases hev : pos % 2 = 0
        · have t1 : ((pos : Int) % 2 == 0) = true := by simp; omega
          have HX2 : Hid ((pos + 1) % 2 = 1 → nm (s[pos]'hlt).toNat = nm (s.data.toList.getD (pos + 1 - 1) 0).toNat) := fun _ => by rw [Nat.add_sub_cancel, HAT.out]
          go_wp2_with (go_at_call 17; refine (number_any _ _).mono ?_; rintro e w2 ⟨rfl, hb1⟩; rw [HR.out, HM.out])
          have hit3 : w2.heap[w1.heap.size]? = some (.stringIter s (pos + 1)) := (hb1.block _ hsz2).trans hit2
          go_roundw
          case rel =>
            exact ⟨pos + 1, _, hlt, hit3, by rw [show (pos + 1) / 2 = pos / 2 by omega]; exact own_below HO2.out hb1 (Nat.le_refl _), hbw2.trans (hb1.mono (by omega)), take_all s pos hlt HA.out HG.out, rfl, HX2, hnb.1, hnb.2⟩
          case measure =>
            rw [iterPos_of hit3, HP.out]
            omega
        · have t1 : ((pos : Int) % 2 == 0) = false := by simp; omega
          have hx := HX.out (by omega)
          have hbt := bt_int s.data.toList (pos / 2)
          rw [show 2 * (pos / 2) = pos - 1 by omega, show pos - 1 + 1 = pos by omega, ← hx, HAT.out] at hbt
          have e1 : IntKind.u8.wrap (16 * x + nm (s[pos]'hlt).toNat) = ((bt s.data.toList (pos / 2)).toNat : Int) := by rw [hbt]; exact IntWalk.u8_in _ (by omega)
          clear hx hbt
          go_wp2_with (first
            | (go_at_call 17; refine (number_any _ _).mono ?_; rintro e w2 ⟨rfl, hb1⟩; rw [HR.out, HM.out]; have HO3 := Lib.hid (own_below HO2.out hb1 (Nat.le_refl _)); have hit3 : w2.heap[w1.heap.size]? = some (.stringIter s (pos + 1)) := (hb1.block _ hsz2).trans hit2; have hbw3 := hbw2.trans (hb1.mono hbw2.size))
            | (at_builtin; (refine wpList_append_own _ rfl _ _ 22 rfl w.heap.size 5 i0 (.int .u8 0) 1 1 Try.underlying22 HI.out HZ0.out HZ1.out HZ2.out rfl (by decide) _ _ _ rfl (HO3.out.alloc _) ⟨w2.heap.size, 0, none⟩ 1 1 (Lib.byteCells [bt s.data.toList (pos / 2)]) rfl rfl ?c1 ?c2 ?c3 ?c4 ?c5 ?_)))
          case c1 =>
            intro j u hj
            have := cell_one_new w2 (.int .u8 (bt s.data.toList (pos / 2)).toNat) 5 j u hj
            simpa using this
          case c2 => exact bytes_one _
          case c3 => unfold maxLen; omega
          case c4 => omega
          case c5 => have := hbw3.size; simp; omega
          · intro v3 w3 hown3 hgr3 _
            have HO4 := Lib.hid hown3
            have hit4 := iter_grown (HO3.out.alloc _) (alloc_at hit3 _) hgr3
            have hbw4 : Below w.heap.size w w3 := (hbw3.alloc hbw3.size _).grown hgr3 (by have := hbw3.size; simp; omega) (fun g hg => (HO.out.lt g hg).1)
            clear hown3 hgr3
            go_wp2
            go_roundw
            case rel =>
              exact ⟨pos + 1, x, hlt, hit4, by rw [show (pos + 1) / 2 = pos / 2 + 1 by omega, getL_succ, Lib.byteCells_append]; exact HO4.out, hbw4, take_all s pos hlt HA.out HG.out, rfl, fun h => absurd h (by omega), hx0, hx1⟩
            case measure =>
              rw [iterPos_of hit4, HP.out]
              omega
    · have hnx : ∀ ty, (Instr.next (.pointer (some ⟨w1.heap.size, 0, none⟩)) true ty).run Try.prog wr = _ := fun ty => Lib.run_next_end_at wr w1.heap.size s pos ty hit hlt
      obtain rfl : pos = s.size := by omega
      have e := HA.out
      rw [List.take_of_length_le (by simp)] at e
      have E := Lib.hid e
      obtain ⟨A', c', rfl⟩ := own_form hown
      have HRD := Lib.hid (RdA.of_own hown)
      clear hlt hp hit hown e HA HX
      by_cases hev : s.size % 2 = 0
      · have hne : ((2 * ((s.size : Int) / 2)) != (s.size : Int)) = false := by simp; omega
        go_wp2
        rw [Exit.noGoto_ret]
        go_ret2
        exact ⟨hbw, .inl ⟨by unfold okS; rw [E.out]; simpa using hev, A', c', rfl, HRD.out.1⟩⟩
      · have hne : ((2 * ((s.size : Int) / 2)) != (s.size : Int)) = true := by simp; omega
        go_wp2
        rw [Exit.noGoto_ret]
        go_ret2
        exact ⟨hbw, .inr ⟨by unfold okS; simp [hev], rfl⟩⟩
end Hx
end Go.Proofs.Ytmgdhkgkjimmoaa
