/-
  Texts of one seat, put together: LeaC, LeaM, LeaN, LeaO, LexB, LexWr.
-/
import Derived.Test.YteobcohjikjalaaGreatDoorSp12
import Derived.Test.YteobcohjikjalaaGreatDoorSp10
import Derived.Test.YteobcohjikjalaaGreatDoorSp08
import Derived.Maps.OwnSet
import Derived.Maps.OwnOps
import Derived.Test.YteobcohjikjalaaGreatDoorSp11
import Derived.Test.YteobcohjikjalaaGreatDoorSp09
import Derived.Deep.LoopGhost
import Derived.Laws.AppendOwnNone
set_option linter.unusedSimpArgs false
namespace Go.Proofs.YteobcohjikjalaaGreatDoor
open Go.RowKit Go.Maps Go.WideMaps
namespace Hx
open Lx Tx Nmb Es
set_option linter.unusedVariables false
end Hx
end Go.Proofs.YteobcohjikjalaaGreatDoor
set_option linter.unusedSimpArgs false
namespace Go.Proofs.YteobcohjikjalaaGreatDoor
open Go.RowKit
namespace Hx
open Lx Tx Nmb Es
set_option linter.unusedVariables false
theorem name9 (s : ByteArray) (w : World) (hm : s.size ≤ 1000000) (b : Bool) (h : nameL s.data.toList = b) :
    Calls Tryz.prog 55 #[.string s] w fun e w' => e = .returned (.bool b) ∧ Below w.heap.size w w' :=
  (name9q s w hm b h).mono fun e w' ⟨h1, h2⟩ => ⟨h1, h2 ▸ Below.refl _ _⟩
theorem own_empty (w : World) (T : TypeId) (k : Nat) : (w.alloc (.cells #[] T)).ownsRow w.heap.size T k (.slice (some ⟨w.heap.size, 0, none⟩) 0 0) 0 [] :=
  ⟨by simp, .inr ⟨w.heap.size, 0, #[], rfl, Nat.le_refl _, heap_alloc_new _ _, Nat.le_refl _, Nat.zero_le _, by simp, by simp⟩⟩
theorem own_emptyB (w : World) (o : Obj) (T : TypeId) (k : Nat) : ((w.alloc o).alloc (.cells #[] T)).ownsRow (w.heap.size + 1) T k (.slice (some ⟨w.heap.size + 1, 0, none⟩) 0 0) 0 [] := by
  have := own_empty (w.alloc o) T k
  rwa [World.size_alloc] at this
theorem copy_box (wr w3 : World) (cs : Array Value) (T : TypeId) {T2 : TypeId} (hgr : ((wr.alloc (.cells cs T)).alloc (.cells #[] T2)).grownBy w3 (Value.slice (some ⟨wr.heap.size + 1, 0, none⟩) 0 0).ownBlock) :
    w3.heap[wr.heap.size]? = some (.cells cs T (0, 0)) ∧ Below wr.heap.size wr w3 := by
  have h1 := kept_heap (heap_alloc_new wr (.cells cs T)) (stpA (Below.refl (wr.alloc (.cells cs T)).heap.size (wr.alloc (.cells cs T))) (.cells #[] T2))
  refine ⟨(hgr.block _ (Array.getElem?_eq_some_iff.1 h1).1 (fun e => by have e : some wr.heap.size = some (wr.heap.size + 1) := e; injection e with e; omega)).trans h1, ?_⟩
  refine (stpA (stpA (Below.refl wr.heap.size wr) (.cells cs T)) (.cells #[] T2)).grown hgr (by simp; omega) fun k hk => ?_
  have hk : some (wr.heap.size + 1) = some k := hk
  injection hk with hk
  omega
end Hx
end Go.Proofs.YteobcohjikjalaaGreatDoor
