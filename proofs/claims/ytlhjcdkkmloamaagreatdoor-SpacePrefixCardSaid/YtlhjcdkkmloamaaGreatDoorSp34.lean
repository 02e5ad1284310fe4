/-
  Texts of one seat, put together: TreH, TrhC, TrhD, TreU, TreO, TrhE.
-/
import Derived.Test.YtlhjcdkkmloamaaGreatDoorSp02
import Derived.Test.YtlhjcdkkmloamaaGreatDoorSp07
import Derived.Test.YtlhjcdkkmloamaaGreatDoorSp06
import Derived.Test.YtlhjcdkkmloamaaGreatDoorSp20
import Derived.Test.YtlhjcdkkmloamaaGreatDoorSp27
import Derived.Test.YtlhjcdkkmloamaaGreatDoorSp04
import Derived.Test.YtlhjcdkkmloamaaGreatDoorSp09
import Derived.Test.YtlhjcdkkmloamaaGreatDoorSp23
import Derived.Test.YtlhjcdkkmloamaaGreatDoorSp24
set_option linter.unusedSimpArgs false
namespace Go.Proofs.YtlhjcdkkmloamaaGreatDoor
open Go.RowKit
namespace Hx
open Lx Tr Tx Nmb Es
set_option linter.unusedVariables false
def withM (n : Nd) (m : Int) : Nd := { n with many := m }
theorem NdIn.many {n : Nd} {x y z : ByteArray} {A : Option Addr} {c : Nat} {w : World} {S : Nat → Prop} (h : NdIn n x y z A c w S) (m : Int) (h1 : -9223372036854775808 ≤ m) (h2 : m ≤ 9223372036854775807) : NdIn (withM n m) x y z A c w S :=
  ⟨h.space, h.name, h.text, h.attrs, h.le, h.cm, h.nil, h.kd, h1, h2⟩
theorem SmallN.many {n : Nd} (h : SmallN n) (m : Int) : SmallN (withM n m) := ⟨h.space, h.name, h.text, h.attrs, h.each⟩
theorem NdSt.one {lo : Nat} {w W : World} {n : Nd} {x y z : ByteArray} {A : Option Addr} {c : Nat} (hb : Below w.heap.size w W) (h : NdIn n x y z A c W (Far lo w W none)) (hA : ∀ k, W.heap.size ≤ k → ¬ Far lo w W none k) :
    NdSt lo w [⟨n, x, y, z, A, c⟩] (.slice (some ⟨W.heap.size, 0, none⟩) 1 1) (W.alloc (.cells #[.int .u8 (n.kind : Int), .string x, .string y, .slice A n.attrs.length c, .string z, .int .i64 n.many] 32)) := by
  have hb2 : Below W.heap.size W (W.alloc (.cells #[.int .u8 (n.kind : Int), .string x, .string y, .slice A n.attrs.length c, .string z, .int .i64 n.many] 32)) := stpA (Below.refl _ _) _
  refine ⟨⟨by simp [nbCells, ndCells], .inr ⟨W.heap.size, 1, #[.int .u8 (n.kind : Int), .string x, .string y, .slice A n.attrs.length c, .string z, .int .i64 n.many], rfl, hb.size, heap_alloc_new _ _, Nat.le_refl _, by decide, by simp, by simp [nbCells, ndCells]⟩⟩, fun b hm => ?_, stp hb hb2⟩
  rw [List.mem_singleton] at hm
  subst hm
  refine h.keep (fun k hk => ⟨hk.1, Nat.lt_of_lt_of_le hk.2.1 hb2.size, fun e => ?_, fun hk2 o => (hb2.frozen (p := ⟨k, o, none⟩) hk.2.1).trans (hk.2.2.2 hk2 o)⟩) fun k o hk => hb2.cell (p := ⟨k, o, none⟩) hk.2.1
  have e2 : some k = some W.heap.size := e
  injection e2 with e2
  have := hk.2.1
  omega
end Hx
end Go.Proofs.YtlhjcdkkmloamaaGreatDoor
