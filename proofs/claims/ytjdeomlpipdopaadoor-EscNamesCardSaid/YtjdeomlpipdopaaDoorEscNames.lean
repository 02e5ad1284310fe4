/-
  The limit's and errors' numbers and the chapter's examples of package esc hold; no condition.
-/
import Derived.Test.YtjdeomlpipdopaaDoorEscW
import Derived.Test.YtjdeomlpipdopaaDoorNumV
import Derived.Test.YtjdeomlpipdopaaDoorCards
import Derived.Test.YtjdeomlpipdopaaDoorTie
import Derived.LaidMore
import Derived.LaidSub
import Derived.MakeChecks
import Derived.Stop.Joined
import Derived.Lib.LaidTab
import Derived.SevenTiedAt
import Derived.Stop.LaidErr
import Derived.OwnWalk
import Derived.OneCell
import Derived.WalkKit
import Derived.ProofKit
import Derived.OpenShut
import Derived.ShutString
import Derived.ChangeOld
import Derived.Below
namespace Go.Proofs.YtjdeomlpipdopaaDoor.escNames
open Go.ChangeShapes Go.WideShapes Go.ChangeAt Go.RowKit
open Go.ChangeMaps (open_string shut_string)
open Hx Tx Nmb Es
set_option linter.unusedVariables false

theorem own : ownKnob Tryd.prog.godebug = none := by kernel_rfl
theorem laidOut : laidOutB Tryd.prog = true := by kernel_rfl

theorem nm_o0 (w : World) (hT : Tb w := by first | assumption | exact Tb.to (by assumption) (by assumption)) (hE : Ev w := by first | assumption | exact Ev.to (by assumption) (by assumption)) : Calls Tryd.prog 10 #[.string ⟨#[38, 35, 48, 59]⟩] w fun e w' => e = .returned (.bool true) ∧ Below w.heap.size w w' := odd_yes _ w (by decide) (by decide +kernel)
theorem nm_o1 (w : World) (hT : Tb w := by first | assumption | exact Tb.to (by assumption) (by assumption)) (hE : Ev w := by first | assumption | exact Ev.to (by assumption) (by assumption)) : Calls Tryd.prog 10 #[.string ⟨#[38, 110, 98, 115, 112, 59]⟩] w fun e w' => e = .returned (.bool true) ∧ Below w.heap.size w w' := odd_yes _ w (by decide) (by decide +kernel)
theorem nm_o2 (w : World) (hT : Tb w := by first | assumption | exact Tb.to (by assumption) (by assumption)) (hE : Ev w := by first | assumption | exact Ev.to (by assumption) (by assumption)) : Calls Tryd.prog 10 #[.string ⟨#[38, 35, 120, 48, 48, 52, 49, 59]⟩] w fun e w' => e = .returned (.bool true) ∧ Below w.heap.size w w' := odd_yes _ w (by decide) (by decide +kernel)
theorem nm_o3 (w : World) (hT : Tb w := by first | assumption | exact Tb.to (by assumption) (by assumption)) (hE : Ev w := by first | assumption | exact Ev.to (by assumption) (by assumption)) : Calls Tryd.prog 10 #[.string ⟨#[38]⟩] w fun e w' => e = .returned (.bool true) ∧ Below w.heap.size w w' := odd_yes _ w (by decide) (by decide +kernel)
theorem nm_o4 (w : World) (hT : Tb w := by first | assumption | exact Tb.to (by assumption) (by assumption)) (hE : Ev w := by first | assumption | exact Ev.to (by assumption) (by assumption)) : Calls Tryd.prog 10 #[.string ⟨#[97, 60]⟩] w fun e w' => e = .returned (.bool true) ∧ Below w.heap.size w w' := odd_yes _ w (by decide) (by decide +kernel)
theorem nm_o5 (w : World) (hT : Tb w := by first | assumption | exact Tb.to (by assumption) (by assumption)) (hE : Ev w := by first | assumption | exact Ev.to (by assumption) (by assumption)) : Calls Tryd.prog 10 #[.string ⟨#[38, 35, 59]⟩] w fun e w' => e = .returned (.bool true) ∧ Below w.heap.size w w' := odd_yes _ w (by decide) (by decide +kernel)
theorem nm_o6 (w : World) (hT : Tb w := by first | assumption | exact Tb.to (by assumption) (by assumption)) (hE : Ev w := by first | assumption | exact Ev.to (by assumption) (by assumption)) : Calls Tryd.prog 10 #[.string ⟨#[38, 35, 120, 59]⟩] w fun e w' => e = .returned (.bool true) ∧ Below w.heap.size w w' := odd_yes _ w (by decide) (by decide +kernel)
theorem nm_o7 (w : World) (hT : Tb w := by first | assumption | exact Tb.to (by assumption) (by assumption)) (hE : Ev w := by first | assumption | exact Ev.to (by assumption) (by assumption)) : Calls Tryd.prog 10 #[.string ⟨#[38, 35, 49, 49, 49, 52, 49, 49, 50, 59]⟩] w fun e w' => e = .returned (.bool true) ∧ Below w.heap.size w w' := odd_yes _ w (by decide) (by decide +kernel)
theorem nm_o8 (w : World) (hT : Tb w := by first | assumption | exact Tb.to (by assumption) (by assumption)) (hE : Ev w := by first | assumption | exact Ev.to (by assumption) (by assumption)) : Calls Tryd.prog 10 #[.string ⟨#[38, 35, 120, 68, 56, 48, 48, 59]⟩] w fun e w' => e = .returned (.bool true) ∧ Below w.heap.size w w' := odd_yes _ w (by decide) (by decide +kernel)
theorem nm_o9 (w : World) (hT : Tb w := by first | assumption | exact Tb.to (by assumption) (by assumption)) (hE : Ev w := by first | assumption | exact Ev.to (by assumption) (by assumption)) : Calls Tryd.prog 10 #[.string ⟨#[38, 97, 109, 112]⟩] w fun e w' => e = .returned (.bool true) ∧ Below w.heap.size w w' := odd_yes _ w (by decide) (by decide +kernel)
theorem nm_o10 (w : World) (hT : Tb w := by first | assumption | exact Tb.to (by assumption) (by assumption)) (hE : Ev w := by first | assumption | exact Ev.to (by assumption) (by assumption)) : Calls Tryd.prog 10 #[.string ⟨#[38, 59]⟩] w fun e w' => e = .returned (.bool true) ∧ Below w.heap.size w w' := odd_yes _ w (by decide) (by decide +kernel)
theorem nm_r0 (w : World) (hT : Tb w := by first | assumption | exact Tb.to (by assumption) (by assumption)) (hE : Ev w := by first | assumption | exact Ev.to (by assumption) (by assumption)) : Calls Tryd.prog 12 #[.string ⟨#[38, 113, 117, 111, 116, 59, 38, 97, 112, 111, 115, 59, 62, 34, 39]⟩, .string ⟨#[34, 39, 62, 34, 39]⟩] w fun e w' => e = .returned (.bool true) ∧ Below w.heap.size w w' := reads_yes _ _ w (by decide) (by decide +kernel)
theorem nm_r1 (w : World) (hT : Tb w := by first | assumption | exact Tb.to (by assumption) (by assumption)) (hE : Ev w := by first | assumption | exact Ev.to (by assumption) (by assumption)) : Calls Tryd.prog 12 #[.string ⟨#[38, 35, 120, 49, 70, 54, 52, 50, 59, 38, 35, 57, 59]⟩, .string ⟨#[240, 159, 153, 130, 9]⟩] w fun e w' => e = .returned (.bool true) ∧ Below w.heap.size w w' := reads_yes _ _ w (by decide) (by decide +kernel)
theorem nm_w0 (w : World) (hT : Tb w := by first | assumption | exact Tb.to (by assumption) (by assumption)) (hE : Ev w := by first | assumption | exact Ev.to (by assumption) (by assumption)) : Calls Tryd.prog 13 #[.string ⟨#[9, 10, 13, 39]⟩, .bool true, .string ⟨#[38, 35, 57, 59, 38, 35, 49, 48, 59, 38, 35, 49, 51, 59, 39]⟩] w fun e w' => e = .returned (.bool true) ∧ Below w.heap.size w w' := writes_yes _ _ _ w (by decide) (by decide +kernel)
theorem nm_w1 (w : World) (hT : Tb w := by first | assumption | exact Tb.to (by assumption) (by assumption)) (hE : Ev w := by first | assumption | exact Ev.to (by assumption) (by assumption)) : Calls Tryd.prog 13 #[.string ⟨#[9, 10, 13]⟩, .bool false, .string ⟨#[9, 10, 38, 35, 49, 51, 59]⟩] w fun e w' => e = .returned (.bool true) ∧ Below w.heap.size w w' := writes_yes _ _ _ w (by decide) (by decide +kernel)
/-- So many signs, then zeros. -/
def amps (n k : Nat) : List UInt8 := List.replicate k 38 ++ List.replicate (n - k) 0
theorem made_z (z : Value) (hz : z.cells = #[z]) (c : Nat) : (madeCells z.cells c).toList = List.replicate c z := by
  rw [hz]
  apply List.ext_getElem
  · simp [madeCells]
  · intro i h1 h2
    simp [madeCells, Nat.mod_one]
theorem amps_len (n k : Nat) (h : k ≤ n) : (amps n k).length = n := by unfold amps; simp; omega
theorem amps_all (n : Nat) : amps n n = List.replicate n 38 := by unfold amps; simp
theorem nm_p (w : World) (hT : Tb w := by first | assumption | exact Tb.to (by assumption) (by assumption)) (hE : Ev w := by first | assumption | exact Ev.to (by assumption) (by assumption)) : Calls Tryd.prog 8 #[.string ⟨#[0]⟩, .bool false] w fun e' w' => e' = .returned (.tuple #[.string ⟨#[]⟩, .int .i64 50]) ∧ Below w.heap.size w w' := put8 _ _ _ _ w (by decide) (by decide +kernel)
theorem nm_g (w : World) (hT : Tb w := by first | assumption | exact Tb.to (by assumption) (by assumption)) (hE : Ev w := by first | assumption | exact Ev.to (by assumption) (by assumption)) : Calls Tryd.prog 9 #[.string ⟨#[255]⟩] w fun e' w' => e' = .returned (.tuple #[.string ⟨#[]⟩, .int .i64 50]) ∧ Below w.heap.size w w' := get8 _ _ _ w (by decide) (by decide +kernel)
theorem rep_esc (n : Nat) : (escL false (List.replicate n 38)).length = 5 * n := by
  induction n with
  | zero => rfl
  | succ n ih =>
    rw [List.replicate_succ, escL_cons, List.length_append, ih]
    show 5 + 5 * n = _
    omega
theorem rep_pts (n : Nat) : (pts (List.replicate n 38)).isSome = true := by
  have e : List.replicate n (38 : UInt8) = encs (List.replicate n 38) := by
    induction n with
    | zero => rfl
    | succ n ih =>
      rw [List.replicate_succ, List.replicate_succ, encs_cons, ← ih]
      rfl
  rw [e, pts_encs]
  · rfl
  · intro x hx
    rw [List.eq_of_mem_replicate hx]
    decide
theorem rep_put (s : ByteArray) (n : Nat) (h : s = ⟨(List.replicate n 38).toArray⟩) (h1 : n ≤ 16384) (h2 : 16384 < 5 * n) : putR s false = (⟨#[]⟩, 4) := by
  have hz : s.size = n := by rw [h, size_mk5, List.length_replicate]
  have hc : chkE s = 0 := by
    rw [chk_in (by omega), h]
    exact rep_pts n
  have he : (escS false s).size = 5 * n := by
    rw [h]
    exact rep_esc n
  unfold putR
  rw [if_neg (by simpa using hc), if_pos (by omega)]
/-- A row of bytes of the call's own. -/
def Rb (g : Nat) (l : List UInt8) (w : World) : Prop := ∃ cs : Array Value, w.heap[g]? = some (.cells cs 5 (0, 0)) ∧ (∀ (j : Nat) (c : UInt8), l[j]? = some c → cs[j]? = some (Value.int .u8 c.toNat))
theorem Rb.cell {g k : Nat} {l : List UInt8} {c : UInt8} {w : World} (h : Rb g l w) (hc : l[k]? = some c) : w.cell? ⟨g, k, none⟩ = some (.int .u8 c.toNat) := by
  obtain ⟨cs, h1, h3⟩ := h
  rw [cell_of_row w g k cs _ _ h1]
  exact h3 k c hc
theorem Rb.free {g k : Nat} {l : List UInt8} {w : World} (h : Rb g l w) : w.frozen? ⟨g, k, none⟩ = false := by
  obtain ⟨cs, h1, _⟩ := h
  exact frozen_of_row w g k cs _ h1
theorem Rb.rd {g : Nat} {l : List UInt8} {w : World} (h : Rb g l w) : RdA w w.heap.size (some ⟨g, 0, none⟩) l := by
  intro hp
  have hc := fun k c => h.cell (k := k) (c := c)
  obtain ⟨cs, h1, _⟩ := h
  refine ⟨g, 0, rfl, lt_of_block h1, fun j hj => ?_⟩
  rw [Nat.zero_add]
  exact hc j _ (List.getElem?_eq_getElem hj)
theorem Rb.put {g k : Nat} {l : List UInt8} {x : UInt8} {w : World} (h : Rb g l w) : Rb g (l.set k x) (w.setCell ⟨g, k, none⟩ (.int .u8 x.toNat)) := by
  obtain ⟨cs, h1, h3⟩ := h
  refine ⟨_, heap_setCell_same w g k cs _ _ h1, fun j c hj => ?_⟩
  rw [List.getElem?_set] at hj
  rw [Array.getElem?_setIfInBounds]
  by_cases hkj : k = j
  · subst hkj
    rw [if_pos rfl] at hj ⊢
    by_cases hk : k < l.length
    · rw [if_pos hk] at hj
      have hs := h3 k _ (List.getElem?_eq_getElem hk)
      have : k < cs.size := (Array.getElem?_eq_some_iff.1 hs).1
      rw [if_pos this]
      cases hj
      rfl
    · rw [if_neg hk] at hj
      cases hj
  · rw [if_neg hkj] at hj ⊢
    exact h3 j c hj
theorem amps_set {n k : Nat} (h : k < n) : (amps n k)[k]? = some 0 ∧ (amps n k).set k 38 = amps n (k + 1) := by
  unfold amps
  obtain ⟨d, hd⟩ : ∃ d, n - k = d + 1 := ⟨n - k - 1, by omega⟩
  rw [hd, show n - (k + 1) = d by omega, List.replicate_succ]
  refine ⟨?_, ?_⟩
  · rw [List.getElem?_append_right (by simp)]
    simp
  · rw [List.set_append_right _ _ (by simp), List.length_replicate, Nat.sub_self, List.set_cons_zero, List.replicate_succ', List.append_assoc]
    rfl
theorem rb_of_own {w : World} {B n c : Nat} {g : Nat} (h : w.ownsRow B 5 1 (.slice (some ⟨g, 0, none⟩) n c) n (List.replicate n (Value.int .u8 0))) : Rb g (amps n 0) w := by
  rcases h.2 with ⟨e, _⟩ | ⟨g', cap, cur, e, _, hh, h4, _, h5, h6⟩
  · cases e
  · cases e
    refine ⟨cur, hh, fun j x hj => ?_⟩
    have e0 : amps n 0 = List.replicate n 0 := by unfold amps; simp
    rw [e0, List.getElem?_replicate] at hj
    split at hj
    · rename_i hjn
      cases hj
      have e1 : (cur.toList.take (n * 1))[j]? = some (Value.int .u8 0) := by rw [h6, List.getElem?_replicate, if_pos hjn]
      rw [List.getElem?_take, if_pos (by omega), Array.getElem?_toList] at e1
      exact e1
    · cases hj
set_option maxHeartbeats 8000000 in
set_option maxRecDepth 100000 in
theorem walk (w : World) (hT : Tb w := by first | assumption | exact Tb.to (by assumption) (by assumption)) (hE : Ev w := by first | assumption | exact Ev.to (by assumption) (by assumption)) :
    Calls Tryd.prog 3 #[] w fun e w' => e = .returned (.bool true) ∧ Below w.heap.size w w' := by
  obtain ⟨i0, hi, hz0, hz1, hz2⟩ := info_parts infoU8
  have HI := Lib.hid hi
  have HZ0 := Lib.hid hz0
  have HZ1 := Lib.hid hz1
  have HZ2 := Lib.hid hz2
  clear hi hz0 hz1 hz2
  go_enter Tryd.func3, Tryd.ntmps3
  go_wp2_with (first
    | (at_make; refine wpList_make_full w rfl _ _ 22 rfl w.heap.size 5 i0 (.int .u8 0) 1 Tryd.underlying22 HI.out HZ0.out HZ1.out .i64 .i64 4000 4000 4000 rfl rfl rfl rfl (by rw [HZ2.out]; decide) (by decide) (Nat.le_refl _) ?_; intro w1 hown1 hgr1; have HO1 := Lib.hid hown1; have HB1 : Hid (Below w.heap.size w w1) := Lib.hid ((Below.refl w.heap.size w).grown hgr1 (Nat.le_refl _) (fun _ h => by cases h)); clear hown1 hgr1)
    | fail)
  obtain ⟨N, hN⟩ : ∃ N : Nat, N = 4000 := ⟨_, rfl⟩
  have HRB : Hid (Rb w.heap.size (amps N 0) w1) := by
    subst hN
    refine rb_of_own (B := w.heap.size) (c := 4000) ?_
    have h := HO1.out
    rw [made_z _ rfl, Nat.mul_one] at h
    exact h
  have HNN := Lib.hid hN
  clear hN
  go_loopg [2] 4000 (fun gg i wr => ∃ k : Nat, k + gg = 4000 ∧ i = .int .i64 k ∧ Rb w.heap.size (amps N k) wr ∧ Below w.heap.size w wr)
  case atStart => exact ⟨0, by omega, rfl, HRB.out, HB1.out⟩
  case round =>
    obtain ⟨k, hk, rfl, hrw, hbw⟩ := hrel
    have HRW := Lib.hid hrw
    have HBW := Lib.hid hbw
    by_cases hlt : k < 4000
    · have hat := amps_set (n := N) (k := k) (by rw [HNN.out]; exact hlt)
      have hcell : wr.cell? ⟨w.heap.size, k, none⟩ = some (.int .u8 0) := hrw.cell hat.1
      have hfree := hrw.free (k := k)
      have bk : (0 : Int) ≤ (k : Int) ∧ (k : Int) < 4000 := by omega
      have HAT := Lib.hid hat.2
      clear hat hrw hbw
      go_wp2_with fail
      go_roundg (gk - 1)
      case rel => exact ⟨k + 1, by omega, by go_num, by rw [← HAT.out]; exact HRW.out.put (x := 38), HBW.out.setCell (Nat.le_refl _) _⟩
      case measure => omega
    · obtain rfl : k = 4000 := by omega
      obtain ⟨s, hs⟩ : ∃ s : ByteArray, ⟨(amps N N).toArray⟩ = s := ⟨_, rfl⟩
      have hr0 : Rb w.heap.size (amps N N) wr := by rw [show amps N N = amps N 4000 by rw [HNN.out]]; exact hrw
      have cv := conv_str (P := Tryd.prog) (n := 4000) (c := 4000) hr0.rd (by rw [amps_len N N (Nat.le_refl _)]; exact HNN.out) Tryd.underlying22 Tryd.underlying5 Tryd.underlying9
      rw [hs] at cv
      have HPS : Hid (putR s false = (⟨#[]⟩, 4)) := Lib.hid (rep_put s N (by rw [← hs, amps_all]) (by rw [HNN.out]; decide) (by rw [HNN.out]; decide))
      have HSZ : Hid (s.size ≤ 1000000) := by
        show _ ≤ _
        rw [← hs, size_mk5, amps_len N N (Nat.le_refl _), HNN.out]
        decide
      clear hr0 hs hrw hbw
      go_wp2_with (first
        | (go_at_call 8; (with_reducible refine (put8 s ⟨#[]⟩ false 4 wr HSZ.out HPS.out).mono ?_); rintro e1 v1 ⟨rfl, hb1⟩; have hB1 := stp HBW.out hb1)
        | (go_at_call 8; (with_reducible refine (nm_p v1).mono ?_); rintro e1 v2 ⟨rfl, hb2⟩; have hB2 := stp hB1 hb2)
        | (go_at_call 9; (with_reducible refine (nm_g v2).mono ?_); rintro e1 v3 ⟨rfl, hb3⟩; have hB3 := stp hB2 hb3)
        | (go_at_call 10; (with_reducible refine (nm_o0 v3).mono ?_); rintro e1 v4 ⟨rfl, hb4⟩; have hB4 := stp hB3 hb4)
        | (go_at_call 10; (with_reducible refine (nm_o1 v4).mono ?_); rintro e1 v5 ⟨rfl, hb5⟩; have hB5 := stp hB4 hb5)
        | (go_at_call 10; (with_reducible refine (nm_o2 v5).mono ?_); rintro e1 v6 ⟨rfl, hb6⟩; have hB6 := stp hB5 hb6)
        | (go_at_call 10; (with_reducible refine (nm_o3 v6).mono ?_); rintro e1 v7 ⟨rfl, hb7⟩; have hB7 := stp hB6 hb7)
        | (go_at_call 10; (with_reducible refine (nm_o4 v7).mono ?_); rintro e1 v8 ⟨rfl, hb8⟩; have hB8 := stp hB7 hb8)
        | (go_at_call 10; (with_reducible refine (nm_o5 v8).mono ?_); rintro e1 v9 ⟨rfl, hb9⟩; have hB9 := stp hB8 hb9)
        | (go_at_call 10; (with_reducible refine (nm_o6 v9).mono ?_); rintro e1 v10 ⟨rfl, hb10⟩; have hB10 := stp hB9 hb10)
        | (go_at_call 10; (with_reducible refine (nm_o7 v10).mono ?_); rintro e1 v11 ⟨rfl, hb11⟩; have hB11 := stp hB10 hb11)
        | (go_at_call 10; (with_reducible refine (nm_o8 v11).mono ?_); rintro e1 v12 ⟨rfl, hb12⟩; have hB12 := stp hB11 hb12)
        | (go_at_call 10; (with_reducible refine (nm_o9 v12).mono ?_); rintro e1 v13 ⟨rfl, hb13⟩; have hB13 := stp hB12 hb13)
        | (go_at_call 10; (with_reducible refine (nm_o10 v13).mono ?_); rintro e1 v14 ⟨rfl, hb14⟩; have hB14 := stp hB13 hb14)
        | (go_at_call 11; (with_reducible refine (alive8 v14).mono ?_); rintro e1 v15 ⟨rfl, hb15⟩; have hB15 := stp hB14 hb15)
        | (go_at_call 12; (with_reducible refine (nm_r0 v15).mono ?_); rintro e1 v16 ⟨rfl, hb16⟩; have hB16 := stp hB15 hb16)
        | (go_at_call 12; (with_reducible refine (nm_r1 v16).mono ?_); rintro e1 v17 ⟨rfl, hb17⟩; have hB17 := stp hB16 hb17)
        | (go_at_call 13; (with_reducible refine (nm_w0 v17).mono ?_); rintro e1 v18 ⟨rfl, hb18⟩; have hB18 := stp hB17 hb18)
        | (go_at_call 13; (with_reducible refine (nm_w1 v18).mono ?_); rintro e1 v19 ⟨rfl, hb19⟩; have hB19 := stp hB18 hb19)
        | fail)
      go_ret
      exact ⟨rfl, hB19⟩

theorem gTab : Tryd.prog.globalNamed "internal/strconv.uint64pow10" = some 1 := by kernel_rfl
theorem gTabType : (Tryd.prog.globals[1]?).map (·.type) = some 116 := by kernel_rfl
/-- What the row's list gives. -/
theorem table {W : World} (h : laidMetH Tryd.prog Rows.escNamesRow.laid W) : Tb W := by
  rw [MakeChecks.laidMetH_plain _ _ _ (by kernel_rfl)] at h
  have h2 := laidMet.filter (fun x => x.1 == "internal/strconv.uint64pow10") h
  have e : Rows.escNamesRow.laid.filter (fun x => x.1 == "internal/strconv.uint64pow10") = [("internal/strconv.uint64pow10", Lib.tabData .u64 Lib.pow10Tab)] := by kernel_rfl
  rw [e] at h2
  exact Lib.tabIs_of_head (rest := []) gTab gTabType Tryd.underlying116 Tryd.underlying86 (by kernel_rfl) (by kernel_rfl) h2
theorem gErr : Tryd.prog.globalNamed "strconv.ErrSyntax" = some 2 := by kernel_rfl
theorem gErrT : (Tryd.prog.globals[2]?).map (·.type) = some 53 := by kernel_rfl
theorem starE : "*" ++ "errors.errorString" = "*errors.errorString" := by decide
theorem rowE (u : TypeId) (h : Tryd.prog.typeName? 3 u = some "*errors.errorString") : u = 124 :=
  typeName_ptr_named (nm := "errors.errorString") (by rw [starE]; kernel_rfl) (by kernel_rfl) (by decide) u (by rw [starE]; exact h)
theorem erred {W : World} (h : laidMetH Tryd.prog Rows.escNamesRow.laid W) : Ev W := by
  rw [MakeChecks.laidMetH_plain _ _ _ (by kernel_rfl)] at h
  have h2 := laidMet.filter (fun x => x.1 == "strconv.ErrSyntax") h
  have e : Rows.escNamesRow.laid.filter (fun x => x.1 == "strconv.ErrSyntax") = [("strconv.ErrSyntax", Rows.laid_strconv_ErrSyntax)] := by kernel_rfl
  rw [e] at h2
  obtain ⟨a, s, h3, _⟩ := laid_sentinel (r := []) h2 gErr gErrT Tryd.underlying53 rowE Tryd.underlying124 Tryd.underlying126 rfl rfl Tryd.underlying9 (by kernel_rfl) (by kernel_rfl)
  exact ⟨_, _, by simpa using World.var?_cell gErr h3 0⟩
theorem door_met (os : Os) (args : Array Value) : laidMetH Tryd.prog Rows.escNamesRow.laid ((World.doorLaid Tryd.prog 400 os).forCall (fun _ _ => 0) ⟨#[], args, []⟩).memory :=
  laidMetH_of_parts3 (fuel := 8) (laidMet_of_run' 8 (by kernel_rfl) (by kernel_rfl)) (by kernel_rfl) (by kernel_rfl)
set_option maxRecDepth 100000 in
theorem lifted (os : Os) (started : os.Started) (H : Type) (enc : TypeId × Value → H) :
    ReturnsInHanded {} Tryd.checked os 3 .any (fun w args => (Rows.escNamesSpec.pre enc Tryd.prog Tryd.f3 [] false w args ∧ laidMetH Tryd.prog Rows.escNamesRow.laid w) ∧ sizedMet enc Tryd.prog Tryd.f3 (OpenSpec.ofChange Rows.escNamesSpec) false w args) (Rows.escNamesSpec.post enc Tryd.prog Tryd.f3 false true false false) := by
  refine returnsInHanded_of_change_and (C := Tryd.checked) (X := fun w _ => laidMetH Tryd.prog Rows.escNamesRow.laid w) (fun _ _ _ hh h => h.of_heap hh) own started (by kernel_rfl) Tryd.func3
    (ChangeSpec.witness_shaped (enc := enc) (C := Tryd.checked) (os := os) (X := fun w _ => laidMetH Tryd.prog Rows.escNamesRow.laid w) false (World.doorLaid Tryd.prog 400 os) #[] 8 rfl (World.shaped_of_RefB (by kernel_rfl) (by kernel_rfl)) (by kernel_rfl) (by kernel_rfl) (by kernel_rfl) (door_met os _)) ?_
  intro W base args ds gs before hval0 hW _ _ hL _
  have hval : ∀ (j : Nat) t v, Tryd.f3.params[j]? = some t → args[j]? = some v → Value.okWide Tryd.prog W .any base t v := hval0
  have hW' := hW
  obtain ⟨p, q, hA0, hV, rfl, hfz, hnd⟩ := hW
  have hA : DataW.TrodAll enc Tryd.prog W 0 (fun _ => true) true Tryd.f3.params.toList args.toList ds p := hA0
  rw [Tryd.params3] at hA hval
  obtain ⟨rfl, rfl, rfl⟩ := trodAll_none hA
  obtain ⟨rfl, rfl⟩ := trodVars_none hV
  clear hA0 hval0
  refine (walk  W (table hL) (erred hL)).mono fun e W' ⟨he, bel⟩ => ?_
  subst he
  exact ⟨_, rfl, _, _, _, [], _, [], hW', trodAll_mk1 (shut_bool Tryd.underlying4 _), hA, rfl, bel.frame _, fun h => by cases h⟩

theorem over : Rows.escNamesRow.holds Tryd.pinned (OpenSpec.ofChange Rows.escNamesSpec) :=
  OpenClaim.holds_of_wide 3 Tryd.f3 rfl rfl rfl rfl rfl rfl rfl ⟨rfl, rfl, rfl, rfl, rfl⟩ rfl rfl rfl rfl rfl (by kernel_rfl) Tryd.func3 (by kernel_rfl)
    (of_decide_eq_true (by kernel_rfl)) (by unfold Func.isWrapper; first | (rw [if_pos (by decide +kernel)]; kernel_rfl) | (rw [if_neg (by decide +kernel)]; exact ⟨rfl, rfl⟩))
    (fun os started H enc _ => lifted os started H enc)

theorem said : Rows.EscNamesSaid := over
theorem plain (f : FuncId) (fn : Func) (hf : Tryd.pinned.checked.prog.funcNamed "tidewaiter/tidewaiterlaw08.EscNames" = some f) (hfn : Tryd.pinned.checked.prog.funcs[f]? = some fn) :
    true = Tryd.pinned.checked.prog.looks [] ∧ ∀ (j : Nat) t, fn.params[j]? = some t → Tryd.pinned.checked.prog.wantsStandIn t = false := by
  obtain rfl : f = 3 := Option.some.inj ((show Tryd.prog.funcNamed "tidewaiter/tidewaiterlaw08.EscNames" = some 3 by kernel_rfl).symm.trans hf) |>.symm
  obtain rfl : fn = Tryd.f3 := (Option.some.inj (Tryd.func3.symm.trans hfn)).symm
  refine ⟨by kernel_rfl, fun j t ht => ?_⟩
  rw [Tryd.params3] at ht
  simp at ht
theorem proved : Rows.EscNamesCardSaid :=
  Claim7.holds_tied_plain_at .later [] _ _ _ _ said (fun _ h => by cases h) (by kernel_rfl) (fun _ h => by cases h) escNames_row_tie rfl ⟨rfl, rfl⟩ (by kernel_rfl) rfl plain (by kernel_rfl)
end Go.Proofs.YtjdeomlpipdopaaDoor.escNames
