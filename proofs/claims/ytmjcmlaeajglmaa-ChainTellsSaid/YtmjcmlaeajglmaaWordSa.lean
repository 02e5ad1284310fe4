/-
  Contracts of the document's own answers (package tidewaiterref02): words of bytes, bytes of words.
-/
import Derived.Test.YtmjcmlaeajglmaaWordRa
import Derived.Deep.RegionHeld3
import Derived.Deep.AppendLies
namespace Go.Proofs.Ytmjcmlaeajglmaa
open Go.RowKit
namespace Hx
open Wd

theorem cells_new (w : World) (C : Array Value) (t : TypeId) (L : List Value) (h : C.toList = L) : ∀ j u, L[j]? = some u → (w.alloc (.cells C t)).cell? ((⟨w.heap.size, 0, none⟩ : Addr).add j) = some u := by
  subst h
  intro j u hu
  rw [addr_plain, World.cell?_alloc_new]
  simpa using hu
theorem w4_cells (x : W32) : (#[.int .u8 ((x.toNat : Int) / 16777216), .int .u8 ((x.toNat : Int) / 65536 % 256), .int .u8 ((x.toNat : Int) / 256 % 256), .int .u8 ((x.toNat : Int) % 256)] : Array Value).toList = Lib.byteCells (w4 x) := by
  have hx := x.isLt
  simp only [Lib.byteCells, w4, List.map_cons, List.map_nil]
  rw [u8_nat _ (by omega), u8_nat _ (by omega), u8_nat _ (by omega), u8_nat _ (by omega)]
  simp

set_option maxHeartbeats 4000000 in
set_option maxRecDepth 100000 in
/-- ref.Bytes. -/
theorem rbytes_any (A : Option Addr) (n cp : Nat) (l : List W32) (w : World) (hr : RdW w w.heap.size A l) (hn : l.length = n) (hm : n ≤ 100000) :
    Calls Try.prog 51 #[.slice A n cp] w fun e w' => Below w.heap.size w w' ∧ ∃ A' c, e = .returned (.slice A' (4 * n) c) ∧ RdA w' w'.heap.size A' (bytesL l) := by
  obtain ⟨i0, hi, hz0, hz1, hz2⟩ := info_parts info5
  have HI := Lib.hid hi
  have HZ0 := Lib.hid hz0
  have HZ1 := Lib.hid hz1
  have HZ2 := Lib.hid hz2
  clear hi hz0 hz1 hz2
  have HN := Lib.hid hn
  have HR := Lib.hid hr
  clear hn hr
  go_enter Try.func51, Try.ntmps51
  go_wp2
  go_loopw [3, 4] (fun v i wr => ∃ k : Nat, k ≤ n ∧ i = .int .i64 k ∧ wr.ownsRow w.heap.size 5 1 v (4 * k) (Lib.byteCells (bytesL (l.take k))) ∧ Below w.heap.size w wr) (fun _ i _ => n - (intOf i).toNat)
  case atStart => exact ⟨0, Nat.zero_le _, rfl, World.ownsRow_nil _ _ _ _, Below.refl _ _⟩
  case round =>
    obtain ⟨k, hk, rfl, hown, hbw⟩ := hrel
    have HO := Lib.hid hown
    by_cases hlt : k < n
    · obtain ⟨bb, off, rfl, hbB, hc⟩ := HR.out (by rw [HN.out]; omega)
      have hk2 : k < l.length := by rw [HN.out]; exact hlt
      have hcell : wr.cell? ⟨bb, off + k, none⟩ = some (.int .u32 ((l[k]'hk2).toNat : Int)) := (hbw.cell (p := ⟨bb, off + k, none⟩) hbB).trans (hc k hk2)
      have hpt := Lib.hid (bytesL_take l k hk2)
      obtain ⟨x, hx⟩ : ∃ x, l[k]'hk2 = x := ⟨_, rfl⟩
      rw [hx] at hcell hpt
      have hxl : ((x.toNat : Nat) : Int) ≤ 4294967295 := by have := x.isLt; omega
      have hsz := hbw.size
      clear hown hc hx
      have HW := Lib.hid (w4_cells x)
      go_wp2_with (at_builtin; (refine wpList_append_own _ rfl _ _ 22 rfl w.heap.size 5 i0 (.int .u8 0) 1 1 Try.underlying22 HI.out HZ0.out HZ1.out HZ2.out rfl (by decide) _ _ _ rfl (HO.out.alloc _) ⟨wr.heap.size, 0, none⟩ 4 4 (Lib.byteCells (w4 x)) rfl rfl ?c1 ?c2 ?c3 ?c4 ?c5 ?_))
      case c1 =>
        intro j u hu
        have e := HW.out
        rw [← e] at hu
        exact hu
      case c2 => exact bytes_one _
      case c3 => unfold maxLen; omega
      case c4 => omega
      case c5 => have := hbw.size; simp; omega
      · intro v3 w3 hown3 hgr3 _
        have HO3 := Lib.hid hown3
        have hbw3 : Below w.heap.size w w3 := (hbw.alloc hbw.size _).grown hgr3 (by have := hbw.size; simp; omega) (fun g hg => (HO.out.lt g hg).1)
        clear hown3 hgr3
        go_wp2
        go_roundw
        case rel => exact ⟨k + 1, by omega, by go_num, by rw [hpt.out, Lib.byteCells_append]; exact HO3.out, hbw3⟩
        case measure => simp [intOf]; omega
    · obtain rfl : k = n := by omega
      obtain ⟨A', c', rfl⟩ := own_form hown
      obtain ⟨hrd, hl2⟩ := RdA.of_own hown
      have HRD := Lib.hid hrd
      clear hown hrd hl2
      go_wp2
      go_ret
      exact ⟨hbw, _, _, rfl, by have := HRD.out; rw [← HN.out, List.take_length] at this; exact this⟩

set_option maxRecDepth 100000 in
theorem rof_many (A : Option Addr) (n cp : Nat) (w : World) (h : 16384 < n) :
    Calls Try.prog 70 #[.slice A n cp] w fun e w' => e = .returned (.tuple #[.slice none 0 0, .int .i64 4]) ∧ Below w.heap.size w w' := by
  have h' : (16384 : Int) < (n : Int) := by omega
  go_enter Try.func70, Try.ntmps70
  go_wp2
  go_ret2
  exact ⟨rfl, Below.refl _ _⟩
set_option maxRecDepth 100000 in
theorem rof_arg (A : Option Addr) (n cp : Nat) (w : World) (h : n ≤ 16384) (h4 : n % 4 ≠ 0) :
    Calls Try.prog 70 #[.slice A n cp] w fun e w' => e = .returned (.tuple #[.slice none 0 0, .int .i64 2]) ∧ Below w.heap.size w w' := by
  have h' : decide ((16384 : Int) < (n : Int)) = false := by simp; omega
  have h2 : ((n : Int) % 4 != 0) = true := by simp; omega
  have h3 : ((n : Int) % 4 == 0) = false := by simp; omega
  go_enter Try.func70, Try.ntmps70
  go_wp2
  go_ret2
  exact ⟨rfl, Below.refl _ _⟩

theorem rof_value (b : List UInt8) (k : Nat) (c0 c1 c2 c3 : UInt8) (h0 : b.getD (4 * k) 0 = c0) (h1 : b.getD (4 * k + 1) 0 = c1) (h2 : b.getD (4 * k + 2) 0 = c2) (h3 : b.getD (4 * k + 3) 0 = c3) :
    IntKind.u32.wrap (16777216 * (c0.toNat : Int) + 65536 * (c1.toNat : Int) + 256 * (c2.toNat : Int) + (c3.toNat : Int)) = (((BitVec.ofNat 32 (pw b k 4)).toNat : Nat) : Int) := by
  have a0 := c0.toNat_lt
  have a1 := c1.toNat_lt
  have a2 := c2.toNat_lt
  have a3 := c3.toNat_lt
  rw [pw4, h0, h1, h2, h3, BitVec.toNat_ofNat, IntKind.wrap_u32]
  omega

theorem own_fresh {w : World} {base : Nat} {e : TypeId} {A : Option Addr} {n m c : Nat} {xs : List Value} (h : w.ownsRow base e 1 (.slice A m c) n xs) : ∀ g o, A = some ⟨g, o, none⟩ → base ≤ g := by
  intro g o hA
  rcases h.2 with ⟨h0, _⟩ | ⟨g', cap, cur, hv, hb, _⟩
  · subst hA; cases h0
  · subst hA; injection hv with h1; injection h1 with h1; injection h1 with h1; omega
/-- What ref.Of answers of fours of bytes, in new memory. -/
def OfOkF (b : List UInt8) (w : World) (e : Ending) (w' : World) : Prop :=
  Below w.heap.size w w' ∧ ∃ A c, e = .returned (.tuple #[.slice A (wordL b).length c, .int .i64 0]) ∧ RdW w' w'.heap.size A (wordL b) ∧ (∀ g o, A = some ⟨g, o, none⟩ → w.heap.size ≤ g)
set_option maxHeartbeats 8000000 in
set_option maxRecDepth 100000 in
/-- ref.Of of fours. -/
theorem rof_okF (A : Option Addr) (n cp : Nat) (b : List UInt8) (w : World) (hr : RdA w w.heap.size A b) (hn : b.length = n) (hm : n ≤ 16384) (h4 : n % 4 = 0) :
    Calls Try.prog 70 #[.slice A n cp] w (OfOkF b w) := by
  obtain ⟨i0, hi, hz0, hz1, hz2⟩ := info_parts infoW
  have HI := Lib.hid hi
  have HZ0 := Lib.hid hz0
  have HZ1 := Lib.hid hz1
  have HZ2 := Lib.hid hz2
  clear hi hz0 hz1 hz2
  have HN := Lib.hid hn
  have HR := Lib.hid hr
  clear hn hr
  have h' : decide ((16384 : Int) < (n : Int)) = false := by simp; omega
  have h2 : ((n : Int) % 4 != 0) = false := by simp; omega
  have h3 : ((n : Int) % 4 == 0) = true := by simp; omega
  have H4 := Lib.hid h4
  clear h4
  go_enter Try.func70, Try.ntmps70
  go_wp2
  go_loopw [4, 5] (fun v i wr => ∃ k j : Nat, Hid (j = 4 * k) ∧ j ≤ n ∧ i = .int .i64 j ∧ wr.ownsRow w.heap.size 35 1 v k ((wordK b k).map encW) ∧ Below w.heap.size w wr) (fun _ i _ => n - (intOf i).toNat)
  case atStart => exact ⟨0, 0, rfl, Nat.zero_le _, rfl, World.ownsRow_nil _ _ _ _, Below.refl _ _⟩
  case round =>
    obtain ⟨k, j, HJ, hj, rfl, hown, hbw⟩ := hrel
    have HO := Lib.hid hown
    by_cases hlt : j < n
    · obtain ⟨bb, off, rfl, hbB, hc⟩ := HR.out (by rw [HN.out]; omega)
      have hj4 : j + 3 < n := by have := H4.out; have := HJ.out; omega
      have hl0 : j < b.length := by rw [HN.out]; omega
      have hl1 : j + 1 < b.length := by rw [HN.out]; omega
      have hl2 : j + 2 < b.length := by rw [HN.out]; omega
      have hl3 : j + 3 < b.length := by rw [HN.out]; omega
      have g : ∀ m (h : m < b.length), b.getD m 0 = b[m]'h := fun m h => by rw [List.getD_eq_getElem?_getD, List.getElem?_eq_getElem h]; rfl
      have cc : ∀ m (h : m < b.length), wr.cell? ⟨bb, off + m, none⟩ = some (.int .u8 (b[m]'h).toNat) := fun m h => (hbw.cell (p := ⟨bb, off + m, none⟩) hbB).trans (hc m h)
      have g0 := g j hl0
      have g1 := g (j + 1) hl1
      have g2 := g (j + 2) hl2
      have g3 := g (j + 3) hl3
      have q0 := cc j hl0
      have q1 := cc (j + 1) hl1
      have q2 := cc (j + 2) hl2
      have q3 := cc (j + 3) hl3
      clear g cc hc
      generalize b[j]'hl0 = c0 at g0 q0
      generalize b[j + 1]'hl1 = c1 at g1 q1
      generalize b[j + 2]'hl2 = c2 at g2 q2
      generalize b[j + 3]'hl3 = c3 at g3 q3
      have hv := rof_value b k c0 c1 c2 c3 (by rw [← HJ.out]; exact g0) (by rw [← HJ.out]; exact g1) (by rw [← HJ.out]; exact g2) (by rw [← HJ.out]; exact g3)
      clear g0 g1 g2 g3 hl0 hl1 hl2 hl3
      have a0 := c0.toNat_lt
      have a1 := c1.toNat_lt
      have a2 := c2.toNat_lt
      have a3 := c3.toNat_lt
      have hsz := hbw.size
      have hne : u4.ownBlock ≠ some bb := fun e => by have := (HO.out.lt bb e).1; omega
      have hk : k ≤ 4096 := by have := HJ.out; omega
      have HS := Lib.hid (wordK_succ b k)
      have f0 : (0 : Int) ≤ (j : Int) := by omega
      have f1 : (0 : Int) ≤ (j : Int) + 1 := by omega
      have f2 : (0 : Int) ≤ (j : Int) + 2 := by omega
      have f3 : (0 : Int) ≤ (j : Int) + 3 := by omega
      have m0 : (j : Int) < (n : Int) := by omega
      have m1 : (j : Int) + 1 < (n : Int) := by omega
      have m2 : (j : Int) + 2 < (n : Int) := by omega
      have m3 : (j : Int) + 3 < (n : Int) := by omega
      have e1 : IntKind.i64.wrap ((j : Int) + 1) = (j : Int) + 1 := IntWalk.i64_in _ (by omega)
      have e2 : IntKind.i64.wrap ((j : Int) + 2) = (j : Int) + 2 := IntWalk.i64_in _ (by omega)
      have e3 : IntKind.i64.wrap ((j : Int) + 3) = (j : Int) + 3 := IntWalk.i64_in _ (by omega)
      have t1 : ((j : Int) + 1).toNat = j + 1 := by omega
      have t2 : ((j : Int) + 2).toNat = j + 2 := by omega
      have t3 : ((j : Int) + 3).toNat = j + 3 := by omega
      have i0' : IntKind.i64.wrap (c0.toNat : Int) = (c0.toNat : Int) := IntWalk.i64_in _ (by omega)
      have i1' : IntKind.i64.wrap (c1.toNat : Int) = (c1.toNat : Int) := IntWalk.i64_in _ (by omega)
      have i2' : IntKind.i64.wrap (c2.toNat : Int) = (c2.toNat : Int) := IntWalk.i64_in _ (by omega)
      have i3' : IntKind.i64.wrap (c3.toNat : Int) = (c3.toNat : Int) := IntWalk.i64_in _ (by omega)
      have p0 : IntKind.i64.wrap (16777216 * (c0.toNat : Int)) = 16777216 * (c0.toNat : Int) := IntWalk.i64_in _ (by omega)
      have p1 : IntKind.i64.wrap (65536 * (c1.toNat : Int)) = 65536 * (c1.toNat : Int) := IntWalk.i64_in _ (by omega)
      have p2 : IntKind.i64.wrap (256 * (c2.toNat : Int)) = 256 * (c2.toNat : Int) := IntWalk.i64_in _ (by omega)
      have s1 : IntKind.i64.wrap (16777216 * (c0.toNat : Int) + 65536 * (c1.toNat : Int)) = 16777216 * (c0.toNat : Int) + 65536 * (c1.toNat : Int) := IntWalk.i64_in _ (by omega)
      have s2 : IntKind.i64.wrap (16777216 * (c0.toNat : Int) + 65536 * (c1.toNat : Int) + 256 * (c2.toNat : Int)) = 16777216 * (c0.toNat : Int) + 65536 * (c1.toNat : Int) + 256 * (c2.toNat : Int) := IntWalk.i64_in _ (by omega)
      have s3 : IntKind.i64.wrap (16777216 * (c0.toNat : Int) + 65536 * (c1.toNat : Int) + 256 * (c2.toNat : Int) + (c3.toNat : Int)) = 16777216 * (c0.toNat : Int) + 65536 * (c1.toNat : Int) + 256 * (c2.toNat : Int) + (c3.toNat : Int) := IntWalk.i64_in _ (by omega)
      obtain ⟨y, hy⟩ : ∃ y, BitVec.ofNat 32 (pw b k 4) = y := ⟨_, rfl⟩
      rw [hy] at hv HS
      have HJ4 := Lib.hid hj4
      clear hy hown hj4 hj
      go_wp2_with fail
      go_region_held3 (fun w' => w'.cell? ⟨bb, off + j, none⟩ = some (.int .u8 c0.toNat) ∧ w'.cell? ⟨bb, off + (j + 1), none⟩ = some (.int .u8 c1.toNat) ∧ w'.cell? ⟨bb, off + (j + 2), none⟩ = some (.int .u8 c2.toNat) ∧ w'.cell? ⟨bb, off + (j + 3), none⟩ = some (.int .u8 c3.toNat))
        (first | go_keep | (go_split_ands; refine ⟨?_, ?_, ?_, ?_⟩ <;> (rw [hgrow.cell_far _ (by simp; omega) (Ne.symm hne)]; assumption)))
        ((refine step_append_lies _ (by rfl) _ _ _ (by rfl) w.heap.size 35 i0 _ 1 4 Try.underlying40 HI.out HZ0.out HZ1.out HZ2.out rfl (by decide) _ _ _ (by rfl) ((HO.out.alloc _).drew) ⟨wr.heap.size, 0, none⟩ 1 1 [encW y] (by rfl) (by rfl) (cell_one_new wr _ _) (by simp [encW, Value.oneCell']) (by decide) (by unfold maxLen; omega) (by omega) (by simp; omega) (wr.heap.size + 1) (by simp) ?_; intro gg cap w1 hown1 hgrow hat hlt1))
      have HO3 := Lib.hid hown1
      have hbw3 : Below w.heap.size w w1 := ((hbw.alloc hbw.size _).drew).grown hgrow (by simp; omega) (fun g hg => (HO.out.lt g hg).1)
      clear hown1 hgrow hat hv e1 e2 e3 t1 t2 t3 i0' i1' i2' i3' p0 p1 p2 s1 s2 s3 q0 q1 q2 q3 f1 f2 f3 m1 m2 m3
      go_wp2
      go_roundw
      case rel => exact ⟨k + 1, j + 4, by have := HJ.out; unfold Hid; omega, by have := HJ4.out; have := HJ.out; have := H4.out; omega, by go_num, by rw [HS.out, List.map_append]; exact HO3.out, hbw3⟩
      case measure => simp [intOf]; omega
    · obtain rfl : j = n := by omega
      obtain rfl : k = j / 4 := by have := HJ.out; omega
      obtain ⟨A', c', rfl⟩ := own_form hown
      obtain ⟨hrd, hl2⟩ := RdG.of_own hown
      have HRD := Lib.hid hrd
      have HL := Lib.hid (show (wordL b).length = j / 4 by rw [wordL_length, HN.out])
      have HK := Lib.hid (show wordK b (j / 4) = wordL b by rw [← HN.out, wordK_full])
      have HFR := Lib.hid (own_fresh hown)
      clear hown hrd hl2
      go_wp2
      go_ret2
      exact ⟨hbw, A', c', by rw [HL.out]; rfl, by have := HRD.out; rw [HK.out] at this; exact this, HFR.out⟩
theorem rof_ok (A : Option Addr) (n cp : Nat) (b : List UInt8) (w : World) (hr : RdA w w.heap.size A b) (hn : b.length = n) (hm : n ≤ 16384) (h4 : n % 4 = 0) :
    Calls Try.prog 70 #[.slice A n cp] w (OfOk b w) :=
  (rof_okF A n cp b w hr hn hm h4).mono fun _ _ ⟨hb, A', c, he, hr', _⟩ => ⟨hb, A', c, he, hr'⟩
end Hx
end Go.Proofs.Ytmjcmlaeajglmaa
