/-
  Texts of one seat, put together: TreO.
-/
import Derived.Test.YtkmaogafknehgaaG18
namespace Go.Proofs.Ytkmaogafknehgaa
open Go.RowKit
namespace Hx
open Lx Tr Tx Nmb Es
set_option linter.unusedVariables false
def withM (n : Nd) (m : Int) : Nd := { n with many := m }
/-- What Put answers. -/
def putN (n : Nd) (ls : List (List Nd)) : List Nd × Int :=
  if mayV [withM n 0] = true then (if ls.all partOk = true then (if 512 < 1 + ls.flatten.length then ([], 4) else if mayV (withM n ls.length :: ls.flatten) = true then (withM n ls.length :: ls.flatten, 0) else ([], 8)) else ([], 8)) else ([], 8)
theorem NdIn.many {n : Nd} {x y z : ByteArray} {A : Option Addr} {c : Nat} {w : World} {S : Nat → Prop} (h : NdIn n x y z A c w S) (m : Int) (h1 : -9223372036854775808 ≤ m) (h2 : m ≤ 9223372036854775807) : NdIn (withM n m) x y z A c w S :=
  ⟨h.space, h.name, h.text, h.attrs, h.le, h.cm, h.nil, h.kd, h1, h2⟩
theorem SmallN.many {n : Nd} (h : SmallN n) (m : Int) : SmallN (withM n m) := ⟨h.space, h.name, h.text, h.attrs, h.each⟩
theorem one_row {w : World} {n : Nd} {x y z : ByteArray} {A : Option Addr} {c : Nat} (h : NdIn n x y z A c w (fun k => k < w.heap.size)) :
    RdB NdS (w.alloc (.cells #[.int .u8 (n.kind : Int), .string x, .string y, .slice A n.attrs.length c, .string z, .int .i64 n.many] 53)) (some ⟨w.heap.size, 0, none⟩) [n] := by
  have hb : Below w.heap.size w (w.alloc (.cells #[.int .u8 (n.kind : Int), .string x, .string y, .slice A n.attrs.length c, .string z, .int .i64 n.many] 53)) := stpA (Below.refl _ _) _
  intro _
  refine ⟨w.heap.size, 0, rfl, by simp, fun j hj => ?_⟩
  have hj0 : j = 0 := by simp at hj; omega
  subst hj0
  refine ⟨ndCells n x y z A c, ⟨x, y, z, A, c, rfl, NdAt.on h hb⟩, fun i hi => ?_⟩
  have e := cellV _ w.heap.size i _ _ _ (heap_alloc_new w (.cells #[.int .u8 (n.kind : Int), .string x, .string y, .slice A n.attrs.length c, .string z, .int .i64 n.many] 53))
  rw [show 0 + 0 * NdS.k + i = i by simp, e]
  have hi6 : i < 6 := hi
  match i, hi6 with
  | 0, _ => rfl
  | 1, _ => rfl
  | 2, _ => rfl
  | 3, _ => rfl
  | 4, _ => rfl
  | 5, _ => rfl
theorem NdOut.weak {w W w' : World} {v : List Nd} {A : Option Addr} {c : Nat} (h : NdOut W.heap.size W v A c w') (hs : w.heap.size ≤ W.heap.size) : NdOut w.heap.size w v A c w' :=
  ⟨h.rd.mono fun k hk => ⟨Nat.le_trans hs hk.1, hk.2.1, hk.2.2.1, fun _ => hk.2.2.2 hk.1⟩, h.le, h.cm, h.nil⟩
def PutsTo (n : Nd) (ls : List (List Nd)) (w : World) (e : Ending) (w' : World) : Prop := ∃ (out : List Nd) (er : Int) (A : Option Addr) (c : Nat), putN n ls = (out, er) ∧ e = .returned (.tuple #[.slice A out.length c, .int .i64 er]) ∧ NdOut w.heap.size w out A c w' ∧ Below w.heap.size w w'
theorem PutsTo.bad {n : Nd} {ls : List (List Nd)} {w w' : World} {er : Int} (h : putN n ls = ([], er)) (hb : Below w.heap.size w w') : PutsTo n ls w (.returned (.tuple #[.slice none 0 0, .int .i64 er])) w' :=
  ⟨[], er, none, 0, h, rfl, NdOut.none _ _ _, hb⟩
/-- The first row of Put. -/
theorem NdSt.one {lo : Nat} {w W : World} {n : Nd} {x y z : ByteArray} {A : Option Addr} {c : Nat} (hb : Below w.heap.size w W) (h : NdIn n x y z A c W (Far lo w W none)) (hA : ∀ k, W.heap.size ≤ k → ¬ Far lo w W none k) :
    NdSt lo w [⟨n, x, y, z, A, c⟩] (.slice (some ⟨W.heap.size, 0, none⟩) 1 1) (W.alloc (.cells #[.int .u8 (n.kind : Int), .string x, .string y, .slice A n.attrs.length c, .string z, .int .i64 n.many] 53)) := by
  have hb2 : Below W.heap.size W (W.alloc (.cells #[.int .u8 (n.kind : Int), .string x, .string y, .slice A n.attrs.length c, .string z, .int .i64 n.many] 53)) := stpA (Below.refl _ _) _
  refine ⟨⟨by simp [nbCells, ndCells], .inr ⟨W.heap.size, 1, #[.int .u8 (n.kind : Int), .string x, .string y, .slice A n.attrs.length c, .string z, .int .i64 n.many], rfl, hb.size, heap_alloc_new _ _, Nat.le_refl _, by decide, by simp, by simp [nbCells, ndCells]⟩⟩, fun b hm => ?_, stp hb hb2⟩
  rw [List.mem_singleton] at hm
  subst hm
  refine h.keep (fun k hk => ⟨hk.1, Nat.lt_of_lt_of_le hk.2.1 hb2.size, fun e => ?_, fun hk2 o => (hb2.frozen (p := ⟨k, o, none⟩) hk.2.1).trans (hk.2.2.2 hk2 o)⟩) fun k o hk => hb2.cell (p := ⟨k, o, none⟩) hk.2.1
  have e2 : some k = some W.heap.size := e
  injection e2 with e2
  have := hk.2.1
  omega
/-- A part put behind the nodes so far. -/
theorem part_fin {lo : Nat} {w wr w5 : World} {L M : List NB} {v v5 : Value} {l : List Nd} (h : NdSt lo w L v wr) (hlo : lo = 0) (hl : M.map NB.n = l) (hM : ∀ b ∈ M, NdIn b.n b.x b.y b.z b.A b.c wr (fun k => k < w.heap.size))
    (hown : w5.ownsRow w.heap.size 53 6 v5 (L.length + l.length) (L.flatMap nbCells ++ M.flatMap nbCells)) (hgr : wr.grownBy w5 v.ownBlock) (hlie : v5.ownBlock = v.ownBlock ∨ v5.ownBlock = some wr.heap.size) : NdSt lo w (L ++ M) v5 w5 := by
  subst hlo
  have hlen : M.length = l.length := by rw [← hl, List.length_map]
  refine h.more (Below.refl _ _) (fun b hb => (hM b hb).keep (fun k hk => ⟨Nat.zero_le _, Nat.lt_of_lt_of_le hk h.2.2.size, fun e => ?_, fun hk2 => by omega⟩) fun _ _ _ => rfl) (by rw [hlen]; exact hown) hgr hlie
  have := (h.1.lt k e.symm).1
  omega
theorem put_first {n : Nd} {x y z : ByteArray} {A : Option Addr} {c m : Nat} {w w2 : World} (h : NdIn (withM n (m : Int)) x y z A c w (fun k => k < w.heap.size)) (hb : Below w.heap.size w (w2.setCell ⟨w.heap.size, 5, none⟩ (.int .i64 (m : Int)))) :
    NdSt 0 w [⟨withM n (m : Int), x, y, z, A, c⟩] (.slice (some ⟨w2.heap.size, 0, none⟩) 1 1) ((w2.setCell ⟨w.heap.size, 5, none⟩ (.int .i64 (m : Int))).alloc (.cells #[.int .u8 (n.kind : Int), .string x, .string y, .slice A n.attrs.length c, .string z, .int .i64 (m : Int)] 53)) := by
  have := NdSt.one (lo := 0) hb (n := withM n (m : Int)) (x := x) (y := y) (z := z) (A := A) (c := c) (h.keep (fun k hk => ⟨Nat.zero_le _, Nat.lt_of_lt_of_le hk hb.size, by simp, fun hk2 => by omega⟩) fun b o hlt => hb.cell (p := ⟨b, o, none⟩) hlt) (fun k hk hf => by have := hf.2.1; omega)
  rw [World.size_setCell] at this
  exact this
end Hx
end Go.Proofs.Ytkmaogafknehgaa
