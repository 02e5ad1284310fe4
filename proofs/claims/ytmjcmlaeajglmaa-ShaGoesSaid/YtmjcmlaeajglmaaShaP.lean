/-
  The contracts of sha.Pad, slices.Grow, slices.Concat of two.
-/
import Derived.Test.YtmjcmlaeajglmaaShaN
import Derived.Test.YtmjcmlaeajglmaaWordSa
import Derived.Shelf.Spec.SlicesGrow
import Derived.Outline
import Derived.OwnWalk
namespace Go.Proofs.Ytmjcmlaeajglmaa
open Go.RowKit
namespace Hx
open Wd Sh

set_option maxRecDepth 100000 in
theorem pad_many (n : Int) (w : World) (h : n < 0 ∨ 16384 < n) :
    Calls Try.prog 12 #[.int .i64 n] w fun e w' => e = .returned (.tuple #[.slice none 0 0, .int .i64 4]) ∧ w = w' := by
  by_cases h0 : n < 0
  · have d0 : decide (n < 0) = true := by simpa using h0
    go_enter Try.func12, Try.ntmps12
    go_wp2
    go_ret2
    exact ⟨rfl, rfl⟩
  · have d0 : decide (n < 0) = false := by simpa using h0
    have d1 : decide (16384 < n) = true := by simp; omega
    go_enter Try.func12, Try.ntmps12
    go_wp2
    go_ret2
    exact ⟨rfl, rfl⟩
theorem made_one (z : Value) (hz : z.cells = #[z]) (c : Nat) : (madeCells z.cells c).toList = List.replicate c z := by
  rw [hz]
  apply List.ext_getElem
  · simp [madeCells]
  · intro i h1 h2
    simp [madeCells, Nat.mod_one]
/-- make([]T, l, c) of one-cell elements. -/
theorem wpList_make_lc {P : Program} (w : World) {ops : Array Oper} {rest : List Oper} {o : Oper} {a : Act} {Q : Exit → Act → World → Prop}
    (hg : o.guard = none) (lo co : Operand) (t : TypeId) (hop : o.op = Op.makeSlice t lo co)
    (base : Nat) (e : TypeId) (i : TypeInfo) (z : Value) (h1 : P.underlying t = some (.slice e)) (h2 : P.info? e = some i) (h3 : i.zero = some z) (h4 : i.size = 1) (hz1 : z.cells = #[z])
    (kl kc : IntKind) (L C : Int) (l c : Nat) (hl : a.eval lo = .int kl L) (hc : a.eval co = .int kc C) (hL : L = (l : Int)) (hC : C = (c : Int)) (hlc : l ≤ c) (b2 : i.bytes * c ≤ 281474976710656) (b3 : c ≤ maxLen) (b4 : base ≤ w.heap.size)
    (hK : ∀ w', w'.ownsRow base e 1 (.slice (some ⟨w.heap.size, 0, none⟩) l c) l (List.replicate l z) → w.grownBy w' none → wpList P ops Q rest (a.put o.dst (.slice (some ⟨w.heap.size, 0, none⟩) l c)) w') :
    wpList P ops Q (o :: rest) a w := by
  refine wpList_plain hg fun K hK' => ?_
  subst hL
  subst hC
  have h63 : (c : Int) ≤ 9223372036854775807 := by have := b3; simp [maxLen] at this; omega
  have hb' : (i.bytes : Int) * (c : Int) ≤ 281474976710656 := by
    have h : ((i.bytes * c : Nat) : Int) ≤ 281474976710656 := by omega
    rwa [Int.natCast_mul] at h
  have hrun := run_make (P := P) w t e i z h1 h2 h3 kl kc (l : Int) (c : Int) (by omega) (by omega) hb' h63
  simp only [Int.toNat_natCast, h4, Nat.mul_one] at hrun
  unfold Oper.wp
  simp [execOp, hop, hl, hc, hrun, Result.andThen]
  refine hK' _ _ (hK _ ?_ (World.grownBy_alloc w _ none))
  refine ⟨by simp, .inr ⟨w.heap.size, c, madeCells z.cells c, rfl, b4, heap_alloc_new w _, hlc, b3, by rw [size_madeCells, Nat.mul_one], ?_⟩⟩
  rw [made_one z hz1, Nat.mul_one, List.take_replicate, Nat.min_eq_left hlc]

/-- The two words of a text's length, and their bytes. -/
theorem tail_bytes (n : Nat) (h : n ≤ 16384) : bytesL [0#32, BitVec.ofNat 32 (8 * n)] = [0, 0, 0, 0, 0, (8 * n / 65536).toUInt8, (8 * n / 256 % 256).toUInt8, (8 * n % 256).toUInt8] := by
  have e : (BitVec.ofNat 32 (8 * n)).toNat = 8 * n := by rw [BitVec.toNat_ofNat, Nat.mod_eq_of_lt (by omega)]
  have e2 : 8 * n / 16777216 = 0 := by omega
  have e3 : 8 * n / 65536 % 256 = 8 * n / 65536 := by omega
  simp only [bytesL, List.flatMap_cons, List.flatMap_nil, w4, e, e2, e3]
  rfl
theorem pad_row (n m1 : Nat) (P : List UInt8) (hP : padL n = P) (hm : m1 = padZ n + 1) (h : n ≤ 16384) : (128 :: List.replicate (m1 - 1) (0 : UInt8)) ++ bytesL [0#32, BitVec.ofNat 32 (8 * n)] = P := by
  rw [tail_bytes n h, ← hP, hm, padL]
  rfl
def PadOk (P : List UInt8) (m : Nat) (w : World) (e : Ending) (w' : World) : Prop :=
  Below w.heap.size w w' ∧ ∃ g c, e = .returned (.tuple #[.slice (some ⟨g, 0, none⟩) m c, .int .i64 0]) ∧ m ≤ c ∧ c ≤ maxLen ∧ RdA w' w'.heap.size (some ⟨g, 0, none⟩) P
theorem len8 (n : Nat) (_h : n ≤ 16384) : IntKind.u32.wrap (8 * (n : Int)) = (((BitVec.ofNat 32 (8 * n)).toNat : Nat) : Int) := by
  rw [BitVec.toNat_ofNat]
  simp [IntKind.wrap, IntKind.bits, IntKind.signed]
theorem row_128 (m1 : Nat) (h : 0 < m1) : (List.replicate m1 (Value.int .u8 0)).set 0 (.int .u8 128) = Lib.byteCells (128 :: List.replicate (m1 - 1) (0 : UInt8)) := by
  obtain ⟨k, rfl⟩ : ∃ k, m1 = k + 1 := ⟨m1 - 1, by omega⟩
  simp [Lib.byteCells, List.replicate_succ]

def By2 (u : W32) (W : World) (e : Ending) (w' : World) : Prop := Below W.heap.size W w' ∧ ∃ A c, e = .returned (.slice A 8 c) ∧ RdA w' w'.heap.size A (bytesL [0#32, u])
theorem bytes_2 (u : W32) (w0 : World) (a : Addr) (v : Value) : Calls Try.prog 17 #[.slice (some ⟨w0.heap.size, 0, none⟩) 2 2] ((w0.setCell a v).alloc (.cells #[.int .u32 0, .int .u32 u.toNat] 35)) (By2 u ((w0.setCell a v).alloc (.cells #[.int .u32 0, .int .u32 u.toNat] 35))) := by
  have key : ∀ w : World, Calls Try.prog 17 #[.slice (some ⟨w.heap.size, 0, none⟩) 2 2] (w.alloc (.cells #[.int .u32 0, .int .u32 u.toNat] 35)) (By2 u (w.alloc (.cells #[.int .u32 0, .int .u32 u.toNat] 35))) := fun w =>
    (bytes_any (some ⟨w.heap.size, 0, none⟩) 2 2 [0#32, u] _ (RdG.newS w 35 [0#32, u]) rfl (by decide)).mono fun _ _ ⟨hb, A, c, he, hr⟩ => ⟨hb, A, c, he, hr⟩
  have := key (w0.setCell a v)
  rw [World.size_setCell] at this
  exact this
theorem rep_zero (m1 : Nat) (h : 0 < m1) : (List.replicate m1 (Value.int .u8 0))[0]? = some (.int .u8 0) := by
  obtain ⟨k, rfl⟩ : ∃ k, m1 = k + 1 := ⟨m1 - 1, by omega⟩
  rfl
theorem not_rd_none {w : World} {B : Nat} {l : List UInt8} {m : Nat} (h : l.length = m + 1) : ¬ RdA w B none l := fun hr => by
  obtain ⟨_, _, e, _⟩ := hr (by omega)
  cases e
theorem pad_end (w : World) (m1 m : Nat) (P : List UInt8) (w4 : World) (v4 : Value) (h1 : 0 < m1) (hm : m1 + 8 = m) {u : W32} (hP : (128 :: List.replicate (m1 - 1) (0 : UInt8)) ++ bytesL [0#32, u] = P)
    (hown : w4.ownsRow w.heap.size 5 1 v4 (m1 + 8) ((List.replicate m1 (Value.int .u8 0)).set 0 (.int .u8 128) ++ Lib.byteCells (bytesL [0#32, u]))) (hb : Below w.heap.size w w4) :
    ∃ g c, v4 = .slice (some ⟨g, 0, none⟩) m c ∧ PadOk P m w (.returned (.tuple #[.slice (some ⟨g, 0, none⟩) m c, .int .i64 0])) w4 := by
  rw [row_128 m1 h1, ← Lib.byteCells_append, hP, hm] at hown
  have hown' := hown
  rcases hown.2 with ⟨_, h0⟩ | ⟨g, c, cur, rfl, _, _, hc1, hc2, _, _⟩
  · omega
  · exact ⟨g, c, rfl, hb, g, c, rfl, hc1, hc2, (RdA.of_own hown').1⟩
set_option maxHeartbeats 4000000 in
set_option maxRecDepth 100000 in
theorem pad_ok (n : Nat) (w : World) (h : n ≤ 16384) (P : List UInt8) (m : Nat) (hP : padL n = P) (hm : P.length = m) :
    Calls Try.prog 12 #[.int .i64 n] w (PadOk P m w) := by
  obtain ⟨i0, hi, hz0, hz1, hz2⟩ := info_parts info5
  have HI := Lib.hid hi
  have HZ0 := Lib.hid hz0
  have HZ1 := Lib.hid hz1
  have HZ2 := Lib.hid hz2
  clear hi hz0 hz1 hz2
  have d0 : decide ((n : Int) < 0) = false := by simp
  have d1 : decide ((16384 : Int) < (n : Int)) = false := by simp; omega
  obtain ⟨u, hu⟩ : ∃ u, BitVec.ofNat 32 (8 * n) = u := ⟨_, rfl⟩
  have hl8 : IntKind.u32.wrap (8 * (n : Int)) = ((u.toNat : Nat) : Int) := by rw [← hu]; exact len8 n h
  have HB : Hid (∀ m1, m1 = padZ n + 1 → (128 :: List.replicate (m1 - 1) (0 : UInt8)) ++ bytesL [0#32, u] = P) := fun m1 h1 => by rw [← hu]; exact pad_row n m1 P hP h1 h
  have HM : Hid (m = padZ n + 1 + 8) := by show m = padZ n + 1 + 8; rw [← hm, ← hP, padL_length]
  clear hu hP hm
  by_cases h9 : (n + 9) % 64 = 0
  · have d2 : (((n : Int) + 1 + 8) % 64 != 0) = false := by simp; omega
    have d3 : (((n : Int) + 1 + 8) % 64 == 0) = true := by simp; omega
    have hm1 : 1 = padZ n + 1 := by unfold padZ; omega
    have HTM := Lib.hid hm1
    have HM8 : Hid (1 + 8 = m) := by show 1 + 8 = m; rw [HM.out, ← hm1]
    have HPB := Lib.hid (HB.out 1 hm1)
    clear hm1 HB
    go_enter Try.func12, Try.ntmps12
    go_wp2_with (first
      | (at_make; refine wpList_make_lc _ rfl _ _ 22 rfl w.heap.size 5 i0 (.int .u8 0) Try.underlying22 HI.out HZ0.out HZ1.out rfl .i64 .i64 _ _ 1 (1 + 8) rfl rfl (by omega) (by omega) (by omega) (by rw [HZ2.out]; omega) (by unfold maxLen; omega) (Nat.le_refl _) ?_; intro w1 hown1 hgr1; have hb1 := (Below.refl _ _).grown hgr1 (Nat.le_refl _) (by simp); have hc0 : w1.cell? ⟨w.heap.size, 0, none⟩ = some (.int .u8 0) := by { rw [hown1.cellAt 0 (by omega)]; exact rep_zero _ (by omega) }; have hf0 := hown1.frozenAt 0; have hst := Lib.hid (fun u => hown1.stored 0 u); clear hown1 hgr1)
      | (go_at_call 17; (with_reducible refine (bytes_2 u w1 ⟨w.heap.size, 0, none⟩ (.int .u8 128)).mono ?_); rintro e w3 ⟨hb3, A3, c3, rfl, hr3⟩; have HR3 := Lib.hid hr3; clear hr3; have hb2 : Below w.heap.size w (w1.setCell ⟨w.heap.size, 0, none⟩ (.int .u8 128)) := hb1.setCell (Nat.le_refl _) _; have hb3' := stp (stpA (Below.refl _ _) _) hb3; have HO3 := Lib.hid (own_below (hst.out (.int .u8 128)).1 hb3' (Nat.le_refl _)))
      | (at_builtin; refine wpList_append_rd rfl (.tmp 34) (.tmp 39) 22 rfl w.heap.size 5 i0 (.int .u8 0) Try.underlying22 HI.out HZ0.out HZ1.out HZ2.out rfl _ 1 _ rfl HO3.out w3.heap.size A3 8 c3 (bytesL [0#32, u]) rfl HR3.out rfl (fun h => by subst h; exact absurd HR3.out (not_rd_none rfl)) (by omega) (Nat.le_trans hb2.size hb3'.size) ?_; intro v4 w4 hown4 hgr4)
      | fail)
    have hp4 := pad_end w 1 m P w4 v4 (by omega) HM8.out HPB.out hown4 ((hb2.trans (hb3'.mono hb2.size)).grown hgr4 (Nat.le_trans hb2.size hb3'.size) (fun g hg => by cases hg; exact Nat.le_refl _))
    clear hown4
    obtain ⟨g4, c4, rfl, hp5⟩ := hp4
    have HP5 := Lib.hid hp5
    clear hp5
    go_wp2_with fail
    go_ret2
    exact HP5.out
  · have d2 : (((n : Int) + 1 + 8) % 64 != 0) = true := by simp; omega
    have d3 : (((n : Int) + 1 + 8) % 64 == 0) = false := by simp; omega
    obtain ⟨M1, hM1⟩ : ∃ M1, 65 - (n + 9) % 64 = M1 := ⟨_, rfl⟩
    have hm1 : M1 = padZ n + 1 := by unfold padZ; omega
    have hMb : 0 < M1 ∧ M1 ≤ 65 := by omega
    have hMi : (n : Int) + 1 + 8 + (64 - ((n : Int) + 1 + 8) % 64) = (n : Int) + (M1 : Int) + 8 := by omega
    have HTM := Lib.hid hm1
    have HM8 : Hid (M1 + 8 = m) := by show M1 + 8 = m; rw [HM.out, ← hm1]
    have HPB := Lib.hid (HB.out M1 hm1)
    clear hm1 HB
    go_enter Try.func12, Try.ntmps12
    go_wp2_with (first
      | (at_make; refine wpList_make_lc _ rfl _ _ 22 rfl w.heap.size 5 i0 (.int .u8 0) Try.underlying22 HI.out HZ0.out HZ1.out rfl .i64 .i64 _ _ M1 (M1 + 8) rfl rfl (by omega) (by omega) (by omega) (by rw [HZ2.out]; omega) (by unfold maxLen; omega) (Nat.le_refl _) ?_; intro w1 hown1 hgr1; have hb1 := (Below.refl _ _).grown hgr1 (Nat.le_refl _) (by simp); have hc0 : w1.cell? ⟨w.heap.size, 0, none⟩ = some (.int .u8 0) := by { rw [hown1.cellAt 0 (by omega)]; exact rep_zero _ (by omega) }; have hf0 := hown1.frozenAt 0; have hst := Lib.hid (fun u => hown1.stored 0 u); clear hown1 hgr1)
      | (go_at_call 17; (with_reducible refine (bytes_2 u w1 ⟨w.heap.size, 0, none⟩ (.int .u8 128)).mono ?_); rintro e w3 ⟨hb3, A3, c3, rfl, hr3⟩; have HR3 := Lib.hid hr3; clear hr3; have hb2 : Below w.heap.size w (w1.setCell ⟨w.heap.size, 0, none⟩ (.int .u8 128)) := hb1.setCell (Nat.le_refl _) _; have hb3' := stp (stpA (Below.refl _ _) _) hb3; have HO3 := Lib.hid (own_below (hst.out (.int .u8 128)).1 hb3' (Nat.le_refl _)))
      | (at_builtin; refine wpList_append_rd rfl (.tmp 34) (.tmp 39) 22 rfl w.heap.size 5 i0 (.int .u8 0) Try.underlying22 HI.out HZ0.out HZ1.out HZ2.out rfl _ M1 _ rfl HO3.out w3.heap.size A3 8 c3 (bytesL [0#32, u]) rfl HR3.out rfl (fun h => by subst h; exact absurd HR3.out (not_rd_none rfl)) (by omega) (Nat.le_trans hb2.size hb3'.size) ?_; intro v4 w4 hown4 hgr4)
      | fail)
    have hp4 := pad_end w M1 m P w4 v4 (by omega) HM8.out HPB.out hown4 ((hb2.trans (hb3'.mono hb2.size)).grown hgr4 (Nat.le_trans hb2.size hb3'.size) (fun g hg => by cases hg; exact Nat.le_refl _))
    clear hown4
    obtain ⟨g4, c4, rfl, hp5⟩ := hp4
    have HP5 := Lib.hid hp5
    clear hp5
    go_wp2_with fail
    go_ret2
    exact HP5.out
end Hx
end Go.Proofs.Ytmjcmlaeajglmaa
