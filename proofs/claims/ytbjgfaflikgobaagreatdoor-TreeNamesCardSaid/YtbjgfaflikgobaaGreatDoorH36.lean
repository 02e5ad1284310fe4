/-
  Texts of one seat, put together: TrhK, TrhL, TrhM.
-/
import Derived.Test.YtbjgfaflikgobaaGreatDoorH35
import Derived.Test.YtbjgfaflikgobaaGreatDoorH34
import Derived.Deep.AppendLies
import Derived.Test.YtbjgfaflikgobaaGreatDoorH17
import Derived.Test.YtbjgfaflikgobaaGreatDoorH11
import Derived.Test.YtbjgfaflikgobaaGreatDoorH06
namespace Go.Proofs.YtbjgfaflikgobaaGreatDoor
open Go.RowKit
namespace Hx
open Lx Tr Tx Nmb Es
set_option linter.unusedVariables false
/-- An attribute's cells, as a token's. -/
def pbA (a : At) : PB := (⟨a.name.toArray⟩, ⟨a.value.toArray⟩)
theorem pbA_val (l : List At) : (l.map pbA).map prVal = pairsN l := by
  unfold pairsN
  rw [List.map_map]
  rfl
theorem pbA_next {l : List At} {j : Nat} (hj : j < l.length) {y z : ByteArray} (hy : y.data.toList = (l[j]'hj).name) (hz : z.data.toList = (l[j]'hj).value) :
    ((l.take (j + 1)).map pbA).flatMap prCells = ((l.take j).map pbA).flatMap prCells ++ [.string y, .string z] := by
  rw [List.take_succ_eq_append_getElem hj, List.map_append, List.flatMap_append]
  unfold pbA prCells
  rw [List.map_cons, List.map_nil, List.flatMap_cons, List.flatMap_nil, List.append_nil]
  rw [← hy, ← hz, ← ba_eq5, ← ba_eq5]
/-- What pairs answers. -/
def PairsTo (l : List At) (w : World) (e : Ending) (w' : World) : Prop := Below w.heap.size w w' ∧ ∃ A c, e = .returned (.slice A l.length c) ∧ w'.ownsRow w.heap.size 119 2 (.slice A l.length c) l.length ((l.map pbA).flatMap prCells)
end Hx
end Go.Proofs.YtbjgfaflikgobaaGreatDoor
namespace Go.Proofs.YtbjgfaflikgobaaGreatDoor
open Go.RowKit
namespace Hx
open Lx Tr Tx Nmb Es
set_option linter.unusedVariables false
theorem set_same10 (w : World) (g k : Nat) (cs : Array Value) (T : TypeId) (x : Value) (h : w.heap[g]? = some (.cells cs T (0, 0))) : (w.setCell ⟨g, k, none⟩ x).heap[g]? = some (.cells (cs.setIfInBounds k x) T (0, 0)) := by
  simp [World.setCell, Array.getElem?_modify, h]
/-- What the loop over a node's attributes holds. -/
structure TagS (w : World) (g4 g5 : Nat) (z : Int) (t : ByteArray) (l : List At) (k : Nat) (v : Value) (wr : World) : Prop where
  bel : Below w.heap.size w wr
  c4 : wr.heap[g4]? = some (.cells zTk 82 (0, 0))
  c5 : wr.heap[g5]? = some (.cells #[.int .u8 z, .string t, v, .string ⟨#[]⟩] 82 (0, 0))
  own : wr.ownsRow (g5 + 1) 119 2 v k (((l.take k).map pbA).flatMap prCells)
section
variable {w : World} {g4 g5 : Nat} {z : Int} {t : ByteArray} {l : List At} {k : Nat} {v : Value} {wr : World}
theorem TagS.below (h : TagS w g4 g5 z t l k v wr) {wr' : World} (b : Below wr.heap.size wr wr') : TagS w g4 g5 z t l k v wr' :=
  ⟨stp h.bel b, kept_heap h.c4 b, kept_heap h.c5 b, own_belowK h.own b (Nat.le_refl _)⟩
theorem TagS.cell (h : TagS w g4 g5 z t l k v wr) (j : Nat) : wr.cell? ⟨g5, j, none⟩ = (#[.int .u8 z, .string t, v, .string ⟨#[]⟩] : Array Value)[j]? := cellV wr g5 j _ _ _ h.c5
theorem TagS.push {A : Option Addr} {c a4 e4 : Nat} {nm vl : ByteArray} {w5 w6 : World} {ob : Obj} (h : TagS w g4 g5 z t l k (.slice A k c) w5) (h4 : g4 < g5) (hw : w.heap.size ≤ g4) (hk : k < l.length) (hy : nm.data.toList = (l[k]'hk).name) (hz : vl.data.toList = (l[k]'hk).value)
    (hown : w6.ownsRow (g5 + 1) 119 2 (.slice (some ⟨a4, 0, none⟩) (k + 1) e4) (k + 1) (((l.take k).map pbA).flatMap prCells ++ [.string nm, .string vl])) (hgr : (w5.alloc ob).grownBy w6 (Value.slice A k c).ownBlock) :
    TagS w g4 g5 z t l (k + 1) (.slice (some ⟨a4, 0, none⟩) (k + 1) e4) (w6.setCell ⟨g5, 2, none⟩ (.slice (some ⟨a4, 0, none⟩) (k + 1) e4)) := by
  have hne : ∀ q, q ≤ g5 → some q ≠ (Value.slice A k c).ownBlock := fun q hq e => by have := (h.own.lt q e.symm).1; omega
  have stay : ∀ q o, q ≤ g5 → w5.heap[q]? = some o → w6.heap[q]? = some o := fun q o hq ho => by
    have h1 := kept_heap ho (stpA (Below.refl w5.heap.size w5) ob)
    exact (hgr.block q (Array.getElem?_eq_some_iff.1 h1).1 (hne q hq)).trans h1
  have ho2 := set_same10 w6 g5 2 _ _ (.slice (some ⟨a4, 0, none⟩) (k + 1) e4) (stay g5 _ (Nat.le_refl _) h.c5)
  have hsz := h.bel.size
  refine ⟨((h.bel.alloc hsz ob).grown hgr (by simp; omega) (fun q hq => by have := (h.own.lt q hq).1; omega)).setCell (p := ⟨g5, 2, none⟩) (by show _ ≤ g5; omega) _, (set_other w6 g5 2 g4 _ (by omega)).trans (stay g4 _ (by omega) h.c4), by simpa using ho2, ?_⟩
  have := own_setCell hown g5 2 (by omega) (.slice (some ⟨a4, 0, none⟩) (k + 1) e4)
  rw [pbA_next hk hy hz]
  exact this
end
/-- What tag answers. -/
def TgTo10 (z : Int) (t : ByteArray) (l : List At) (w : World) (e : Ending) (w' : World) : Prop := Below w.heap.size w w' ∧ ∃ A c, e = .returned (.agg #[.int .u8 z, .string t, .slice A l.length c, .string ⟨#[]⟩]) ∧ w'.ownsRow w.heap.size 119 2 (.slice A l.length c) l.length ((l.map pbA).flatMap prCells)
theorem TagS.start (w : World) (cs : Array Value) (T : TypeId) (z : Int) (t : ByteArray) (l : List At) (w1 : World) (h : Below ((w.alloc (.cells cs T)).alloc (.cells zTk 82)).heap.size ((w.alloc (.cells cs T)).alloc (.cells zTk 82)) w1) :
    TagS w (w.heap.size + 1) w1.heap.size z t l 0 (.slice none 0 0) (w1.alloc (.cells #[.int .u8 z, .string t, .slice none 0 0, .string ⟨#[]⟩] 82)) := by
  have h0 := heap_alloc_new (w.alloc (.cells cs T)) (.cells zTk 82)
  rw [World.size_alloc] at h0
  exact ⟨stpA (stp (stpA (stpA (Below.refl _ _) _) _) h) _, kept_heap (kept_heap h0 h) (stpA (Below.refl _ _) _), heap_alloc_new _ _, World.ownsRow_nil _ _ _ _⟩
theorem own_low {w : World} {base base' size n : Nat} {e : TypeId} {v : Value} {xs : List Value} (h : w.ownsRow base e size v n xs) (hb : base' ≤ base) : w.ownsRow base' e size v n xs := by
  refine ⟨h.1, ?_⟩
  rcases h.2 with h0 | ⟨g, cap, cur, hv, hg, rest⟩
  · exact .inl h0
  · exact .inr ⟨g, cap, cur, hv, Nat.le_trans hb hg, rest⟩
theorem TagS.fin {w wr : World} {g5 k c : Nat} {z : Int} {t : ByteArray} {l : List At} {A : Option Addr} (h : TagS w (w.heap.size + 1) g5 z t l k (.slice A k c) wr) (hp : l.length = k) (hg : w.heap.size + 1 < g5) (cs : Array Value) :
    TgTo10 z t l w (.returned (.agg #[.int .u8 z, .string t, .slice A k c, .string ⟨#[]⟩])) (wr.setRow (w.heap.size + 1) cs) := by
  have h1 := own_low (own_setRow h.own (w.heap.size + 1) (by omega) cs) (base' := w.heap.size) (by omega)
  rw [List.take_of_length_le (by omega)] at h1
  exact ⟨below_setRowV h.bel (by omega) cs, A, c, by rw [hp], by rw [hp]; exact h1⟩
set_option maxHeartbeats 16000000 in
set_option maxRecDepth 100000 in
theorem tag10 (z : Int) (n : Nd) (x y t : ByteArray) (A : Option Addr) (c : Nat) (w : World) (h : NdAt n x y t A c w) (hs : SmallN n) :
    Calls Tryz.prog 52 #[.int .u8 z, NdV n x y t A c] w (TgTo10 z y n.attrs w) := by
  obtain ⟨i0, hi, hz0, hz1, hz2⟩ := info_parts infoPr
  have HI := Lib.hid hi
  have HZ0 := Lib.hid hz0
  have HZ1 := Lib.hid hz1
  have HZ2 := Lib.hid hz2
  unfold NdV
  have HR := Lib.hid h.rd
  have hys : y.size ≤ 1000000 := by rw [← ba_len5, h.name]; exact hs.name
  have HYS := Lib.hid hys
  have hal := hs.attrs
  have HEA := Lib.hid hs.each
  obtain ⟨l, hl⟩ : ∃ l, n.attrs = l := ⟨_, rfl⟩
  rw [hl] at HR hal HEA
  rw [hl]
  obtain ⟨p, hp⟩ : ∃ p, l.length = p := ⟨_, rfl⟩
  have HP := Lib.hid hp
  rw [hp] at hal
  rw [hp]
  obtain ⟨kd, hkd⟩ : ∃ kd, n.kind = kd := ⟨_, rfl⟩
  obtain ⟨mm, hmm⟩ : ∃ mm, n.many = mm := ⟨_, rfl⟩
  rw [hkd, hmm]
  clear h hs hl hp hkd hmm hi hz0 hz1 hz2 hys
  have HB3 : Hid (∀ w1, Below ((w.alloc (.cells #[.int .u8 (kd : Int), .string x, .string y, .slice A p c, .string t, .int .i64 mm] 36)).alloc (.cells zTk 82)).heap.size ((w.alloc (.cells #[.int .u8 (kd : Int), .string x, .string y, .slice A p c, .string t, .int .i64 mm] 36)).alloc (.cells zTk 82)) w1 → w1.heap[w.heap.size]? = some (.cells #[.int .u8 (kd : Int), .string x, .string y, .slice A p c, .string t, .int .i64 mm] 36 (0, 0)) ∧ w.heap.size + 1 < w1.heap.size ∧ TagS w (w.heap.size + 1) w1.heap.size z y l 0 (.slice none 0 0) (w1.alloc (.cells #[.int .u8 z, .string y, .slice none 0 0, .string ⟨#[]⟩] 82))) := Lib.hid fun w1 hb =>
    ⟨kept_heap (kept_heap (heap_alloc_new w _) (stpA (Below.refl _ _) _)) hb, by have := hb.size; simp at this; omega, TagS.start w _ _ z y l w1 hb⟩
  go_enter Tryz.func52, Tryz.ntmps52
  go_wp2_with (first
    | (go_at_call 51; (with_reducible refine (clone9 y _ HYS.out).mono ?_); rintro e1 w1 ⟨rfl, hb1⟩; have HG : Hid (w.heap.size + 1 < w1.heap.size) := Lib.hid (HB3.out w1 hb1).2.1; have HST := Lib.hid (HB3.out w1 hb1).2.2; have k3 : (w1.alloc (.cells #[.int .u8 z, .string y, .slice none 0 0, .string ⟨#[]⟩] 82)).cell? ⟨w.heap.size, 3, none⟩ = some (.slice A p c) := cellV _ _ 3 _ _ _ (kept_heap (HB3.out w1 hb1).1 (stpA (Below.refl _ _) _)); clear hb1)
    | (refine wpList_store_row rfl _ _ _ rfl w1.heap.size #[.int .u8 z, .string y, .slice none 0 0, .string ⟨#[]⟩] rfl rfl 82 zTk (heap_alloc_new _ _) sizeTk rfl (oneTk _ _ _ _) ?_; rw [World.setRow_alloc_new])
    | fail)
  go_loopg [16] p (fun gg i wr => ∃ (k : Nat) (v : Value), k + gg = p ∧ i = .int .i64 k ∧ TagS w (w.heap.size + 1) w1.heap.size z y l k v wr)
  case atStart => exact ⟨0, _, by omega, rfl, HST.out⟩
  case round =>
    obtain ⟨k, v, hkg, rfl, hst⟩ := hrel
    obtain ⟨Aa, ca, rfl⟩ := own_form2 hst.own
    have HS := Lib.hid hst
    by_cases hlt : k < p
    · have hk1 : k < l.length := by rw [HP.out]; exact hlt
      obtain ⟨b0, off, x1, y1, z1, rfl, hbB, hx, hy, hz, c0, c1, c2⟩ := at_at (HR.out.on hst.bel) hk1
      have hea := HEA.out _ (List.getElem_mem hk1)
      rw [← hy, ← hz, ba_l, ba_l] at hea
      have HY1 := Lib.hid hea.2.1
      have HZ1' := Lib.hid hea.2.2
      have HYE := Lib.hid hy
      have HZE := Lib.hid hz
      have HK1 := Lib.hid hk1
      have HKP : Hid (k + 1 ≤ 1000000) := Lib.hid (by omega)
      have bk : (0 : Int) ≤ (k : Int) ∧ (k : Int) < (p : Int) := by omega
      obtain ⟨W0, hW0⟩ : ∃ W0, wr.alloc (.cells #[.string x1, .string y1, .string z1] 52) = W0 := ⟨_, rfl⟩
      have HW0 : Hid (W0.heap[wr.heap.size]? = some (.cells #[.string x1, .string y1, .string z1] 52 (0, 0))) := Lib.hid (by rw [← hW0]; exact heap_alloc_new wr _)
      have HS0 : Hid (TagS w (w.heap.size + 1) w1.heap.size z y l k (.slice Aa k ca) W0) := Lib.hid (by rw [← hW0]; exact hst.below (stpA (Below.refl _ _) _))
      have HLT : Hid (w1.heap.size < wr.heap.size) := Lib.hid (lt_heap hst.c5)
      clear hst hx hy hz hea hbB
      go_wp2_with fail
      clear c0 c1 c2
      try rw [hW0]
      clear hW0
      refine wp_region_noPanic ?_
      refine wp_region_Z (fun W => W.cell? ⟨w1.heap.size, 2, none⟩ = some (.slice Aa k ca) ∧ W.cell? ⟨wr.heap.size, 1, none⟩ = some (.string y1) ∧ W.cell? ⟨wr.heap.size, 2, none⟩ = some (.string z1)) 12 (by kernel_rfl) ?_
      have hS : W0.drew.cell? ⟨w1.heap.size, 2, none⟩ = some (.slice Aa k ca) ∧ W0.drew.cell? ⟨wr.heap.size, 1, none⟩ = some (.string y1) ∧ W0.drew.cell? ⟨wr.heap.size, 2, none⟩ = some (.string z1) := ⟨HS0.out.cell 2, cellV W0 _ 1 _ _ _ HW0.out, cellV W0 _ 2 _ _ _ HW0.out⟩
      refine takeZ (i := 0) (v := .pointer (some ⟨w1.heap.size, 2, none⟩)) rfl (by kernel_rfl) (by kernel_rfl) (by kernel_rfl) (by kernel_rfl) (fun _ _ _ h => h) (Or.inl ⟨by rfl, ?_⟩) hS ?_
      · intro w' hSw; (try dsimp only at hSw); go_simp
      try simp only [Act.put, List.setIfInBounds_toArray, List.set_cons_zero, List.set_cons_succ]
      refine takeZ (i := 1) (v := .slice Aa k ca) rfl (by kernel_rfl) (by kernel_rfl) (by kernel_rfl) (by kernel_rfl) (fun _ _ _ h => h) (Or.inl ⟨by rfl, ?_⟩) hS ?_
      · intro w' hSw; (try dsimp only at hSw); go_simp
      try simp only [Act.put, List.setIfInBounds_toArray, List.set_cons_zero, List.set_cons_succ]
      refine takeZ (i := 2) (v := .pointer (some ⟨wr.heap.size, 1, none⟩)) rfl (by kernel_rfl) (by kernel_rfl) (by kernel_rfl) (by kernel_rfl) (fun _ _ _ h => h) (Or.inl ⟨by rfl, ?_⟩) hS ?_
      · intro w' hSw; (try dsimp only at hSw); go_simp
      try simp only [Act.put, List.setIfInBounds_toArray, List.set_cons_zero, List.set_cons_succ]
      refine takeZ (i := 3) (v := .string y1) rfl (by kernel_rfl) (by kernel_rfl) (by kernel_rfl) (by kernel_rfl) (fun _ _ _ h => h) (Or.inl ⟨by rfl, ?_⟩) hS ?_
      · intro w' hSw; (try dsimp only at hSw); go_simp
      try simp only [Act.put, List.setIfInBounds_toArray, List.set_cons_zero, List.set_cons_succ]
      refine takeZ (i := 5) (v := .pointer (some ⟨wr.heap.size, 2, none⟩)) rfl (by kernel_rfl) (by kernel_rfl) (by kernel_rfl) (by kernel_rfl) (fun _ _ _ h => h) (Or.inl ⟨by rfl, ?_⟩) hS ?_
      · intro w' hSw; (try dsimp only at hSw); go_simp
      try simp only [Act.put, List.setIfInBounds_toArray, List.set_cons_zero, List.set_cons_succ]
      refine takeZ (i := 6) (v := .string z1) rfl (by kernel_rfl) (by kernel_rfl) (by kernel_rfl) (by kernel_rfl) (fun _ _ _ h => h) (Or.inl ⟨by rfl, ?_⟩) hS ?_
      · intro w' hSw; (try dsimp only at hSw); go_simp
      try simp only [Act.put, List.setIfInBounds_toArray, List.set_cons_zero, List.set_cons_succ]
      refine stepZ (i := 4) (by kernel_rfl) rfl (fun K hK => ?_)
      go_simp
      go_at_call 51; (with_reducible refine (clone9 y1 _ HY1.out).mono ?_); rintro e5 w5 ⟨rfl, hb5⟩
      have HS5 : Hid (TagS w (w.heap.size + 1) w1.heap.size z y l k (.slice Aa k ca) w5) := Lib.hid (HS0.out.below (stp (Below.refl _ _).drew hb5))
      have HW5 : Hid (w5.heap[wr.heap.size]? = some (.cells #[.string x1, .string y1, .string z1] 52 (0, 0))) := Lib.hid (kept_heap HW0.out (stp (Below.refl _ _).drew hb5))
      have hS5 : w5.cell? ⟨w1.heap.size, 2, none⟩ = some (.slice Aa k ca) ∧ w5.cell? ⟨wr.heap.size, 1, none⟩ = some (.string y1) ∧ w5.cell? ⟨wr.heap.size, 2, none⟩ = some (.string z1) := ⟨HS5.out.cell 2, cellV w5 _ 1 _ _ _ HW5.out, cellV w5 _ 2 _ _ _ HW5.out⟩
      go_wp2_with fail
      refine hK.out _ _ (fun _ => hS5) (fun _ => ?_)
      clear hK K hb5
      try simp only [Act.put, List.setIfInBounds_toArray, List.set_cons_zero, List.set_cons_succ]
      refine stepZ (i := 7) (by kernel_rfl) rfl (fun K hK => ?_)
      go_simp
      go_at_call 51; (with_reducible refine (clone9 z1 _ HZ1'.out).mono ?_); rintro e6 w6 ⟨rfl, hb6⟩
      have HS6 : Hid (TagS w (w.heap.size + 1) w1.heap.size z y l k (.slice Aa k ca) w6) := Lib.hid (HS5.out.below hb6)
      have HW6 : Hid (w6.heap[wr.heap.size]? = some (.cells #[.string x1, .string y1, .string z1] 52 (0, 0))) := Lib.hid (kept_heap HW5.out hb6)
      have hS6 : w6.cell? ⟨w1.heap.size, 2, none⟩ = some (.slice Aa k ca) ∧ w6.cell? ⟨wr.heap.size, 1, none⟩ = some (.string y1) ∧ w6.cell? ⟨wr.heap.size, 2, none⟩ = some (.string z1) := ⟨HS6.out.cell 2, cellV w6 _ 1 _ _ _ HW6.out, cellV w6 _ 2 _ _ _ HW6.out⟩
      go_wp2_with fail
      refine hK.out _ _ (fun _ => hS6) (fun _ => ?_)
      clear hK K hb6 hS hS5
      try simp only [Act.put, List.setIfInBounds_toArray, List.set_cons_zero, List.set_cons_succ]
      refine takeZ (i := 8) (v := .agg #[.string y1, .string z1]) rfl (by kernel_rfl) (by kernel_rfl) (by kernel_rfl) (by kernel_rfl) (fun _ _ _ h => h) (Or.inl ⟨by rfl, ?_⟩) hS6 ?_
      · intro w' hSw; (try dsimp only at hSw); go_simp
      try simp only [Act.put, List.setIfInBounds_toArray, List.set_cons_zero, List.set_cons_succ]
      refine stepZ (i := 9) (by kernel_rfl) rfl (fun K hK => ?_)
      go_simp
      have HS7 : Hid (TagS w (w.heap.size + 1) w1.heap.size z y l k (.slice Aa k ca) (w6.alloc (.cells #[.string y1, .string z1] 119))) := Lib.hid (HS6.out.below (stpA (Below.refl _ _) _))
      have hS7 : (w6.alloc (.cells #[.string y1, .string z1] 119)).cell? ⟨w1.heap.size, 2, none⟩ = some (.slice Aa k ca) ∧ (w6.alloc (.cells #[.string y1, .string z1] 119)).cell? ⟨wr.heap.size, 1, none⟩ = some (.string y1) ∧ (w6.alloc (.cells #[.string y1, .string z1] 119)).cell? ⟨wr.heap.size, 2, none⟩ = some (.string z1) := ⟨HS7.out.cell 2, cellV _ _ 1 _ _ _ (kept_heap HW6.out (stpA (Below.refl _ _) _)), cellV _ _ 2 _ _ _ (kept_heap HW6.out (stpA (Below.refl _ _) _))⟩
      refine hK.out _ _ (fun _ => hS7) (fun _ => ?_)
      clear hK K
      try simp only [Act.put, List.setIfInBounds_toArray, List.set_cons_zero, List.set_cons_succ]
      refine stepZ (i := 10) (by kernel_rfl) rfl (fun K hK => ?_)
      refine step_append_lies _ rfl (.tmp 21) (.tmp 29) 80 rfl (w1.heap.size + 1) 119 i0 (.agg #[.string ⟨#[]⟩, .string ⟨#[]⟩]) 2 32 Tryz.underlying80 HI.out HZ0.out HZ1.out HZ2.out rfl (by decide) _ k _ rfl (own_belowK HS6.out.own (stpA (Below.refl _ _) _) (Nat.le_refl _)) ⟨w6.heap.size, 0, none⟩ 1 1 [.string y1, .string z1] rfl rfl (new_at w6 [.string y1, .string z1] 119 _ rfl) (by simp [Value.oneCell']) (by decide) (by have := HKP.out; unfold maxLen; omega) (by have := HKP.out; omega) (by have := lt_heap HS6.out.c5; simp; omega) _ rfl ?_
      intro g8 c8 w8 hown8 hgr8 hor hlt8
      have HP8 := Lib.hid (HS6.out.push HG.out (Nat.le_succ _) HK1.out HYE.out HZE.out hown8 hgr8)
      have hst8 : ∀ (q : Nat) (o : Obj), (q = w1.heap.size ∨ q = wr.heap.size) → w6.heap[q]? = some o → (∀ e, (Value.slice Aa k ca).ownBlock = some e → e ≠ q) → w8.heap[q]? = some o := fun q o _ ho hne => by
        have h1 := kept_heap ho (stpA (Below.refl w6.heap.size w6) (.cells #[.string y1, .string z1] 119))
        exact (hgr8.block _ (Array.getElem?_eq_some_iff.1 h1).1 (fun e => hne _ e.symm rfl)).trans h1
      have h8a := hst8 w1.heap.size _ (.inl rfl) HS6.out.c5 (fun e he => by have := (HS6.out.own.lt e he).1; omega)
      have h8b := hst8 wr.heap.size _ (.inr rfl) HW6.out (fun e he => by have := (HS.out.own.lt e he).2; omega)
      have k8 : w8.cell? ⟨w1.heap.size, 2, none⟩ = some (.slice Aa k ca) ∧ w8.cell? ⟨wr.heap.size, 1, none⟩ = some (.string y1) ∧ w8.cell? ⟨wr.heap.size, 2, none⟩ = some (.string z1) := ⟨cellV w8 _ 2 _ _ _ h8a, cellV w8 _ 1 _ _ _ h8b, cellV w8 _ 2 _ _ _ h8b⟩
      have f8 : w8.frozen? ⟨w1.heap.size, 2, none⟩ = false := freeV w8 _ 2 _ _ h8a
      clear hown8 hgr8 hor h8a h8b hst8
      refine hK.out _ _ (fun _ => k8) (fun _ => ?_)
      clear hK K
      try simp only [Act.put, List.setIfInBounds_toArray, List.set_cons_zero, List.set_cons_succ]
      refine takeZ (i := 11) (v := .pointer (some ⟨w1.heap.size, 2, none⟩)) rfl (by kernel_rfl) (by kernel_rfl) (by kernel_rfl) (by kernel_rfl) (fun _ _ _ h => h) (Or.inl ⟨by rfl, ?_⟩) k8 ?_
      · intro w' hSw; (try dsimp only at hSw); go_simp
      try simp only [Act.put, List.setIfInBounds_toArray, List.set_cons_zero, List.set_cons_succ]
      refine stepZ (i := 12) (by kernel_rfl) rfl (fun K hK => ?_)
      have k82 := k8.1
      go_simp
      refine hK.out _ _ (fun h => absurd rfl h) (fun _ => ?_)
      clear hK K
      try simp only [Act.put, List.setIfInBounds_toArray, List.set_cons_zero, List.set_cons_succ]
      refine doneZ (by kernel_rfl) ?_ _
      refine NoPanic.normal ?_
      go_wp2_with fail
      go_roundg (gk - 1)
      case rel => exact ⟨k + 1, _, by omega, by go_num, HP8.out⟩
      case measure => omega
    · obtain rfl : k = p := by omega
      have hjj : ¬ ((k : Int) < (k : Int)) := by omega
      clear hst
      go_wp2_with (first
        | (refine wpList_load_row rfl _ _ rfl w1.heap.size rfl 82 #[.int .u8 z, .string y, .slice Aa k ca, .string ⟨#[]⟩] (0, 0) _ HS.out.c5 Tryz.underlying82 rfl sizeTk ?_)
        | (refine wpList_store_row rfl _ _ _ rfl (w.heap.size + 1) #[.int .u8 z, .string y, .slice Aa k ca, .string ⟨#[]⟩] rfl rfl 82 zTk HS.out.c4 sizeTk rfl (oneTk _ _ _ _) ?_)
        | fail)
      (try simp only [Exit.inBlock, Exit.then, Exit.noGoto])
      exact bodyPost_ret (v := .agg #[.int .u8 z, .string y, .slice Aa k ca, .string ⟨#[]⟩]) (results_cell_row rfl _ _ _ _ _ _ _ rfl (setRow_heap _ _ _ #[.int .u8 z, .string y, .slice Aa k ca, .string ⟨#[]⟩] _ _ HS.out.c4) Tryz.underlying82 rfl sizeTk) rfl
        (HS.out.fin HP.out HG.out _)
end Hx
end Go.Proofs.YtbjgfaflikgobaaGreatDoor
namespace Go.Proofs.YtbjgfaflikgobaaGreatDoor
open Go.RowKit
namespace Hx
open Lx Tr Tx Nmb Es
set_option linter.unusedVariables false
/-- The closure of Tokens, as a value. -/
def tellF (gv gn gl gt : Nat) : Value := .func (.func 50) #[] #[.pointer (some ⟨gv, 0, none⟩), .pointer (some ⟨gn, 0, none⟩), .pointer (some ⟨gl, 0, none⟩), .pointer (some ⟨gt, 0, none⟩)]
/-- A token's attributes lie off a row. -/
def OffT (base : Nat) (V : Value) (b : TB) : Prop := 0 < b.t.attrs.length → ∀ ad, b.A = some ad → some ad.block ≠ V.ownBlock ∧ base ≤ ad.block
structure TlSt (B base gv gn gl gt : Nat) (A : Option Addr) (c : Nat) (v : List Nd) (p : Nat) (L : List TB) (V : Value) (wr : World) : Prop where
  hv : wr.heap[gv]? = some (.cells #[.slice A v.length c] 24 (0, 0))
  hn : wr.heap[gn]? = some (.cells #[.int .i64 (p : Int)] 3 (0, 0))
  hl : wr.heap[gl]? = some (.cells #[V] 41 (0, 0))
  ht : wr.heap[gt]? = some (.cells #[tellF gv gn gl gt] 1 (0, 0))
  rd : RdS NdS wr (fun b => b < B) A v
  own : wr.ownsRow base 82 4 V L.length (L.flatMap tbCells)
  tk : ∀ b ∈ L, TkC.R wr wr.heap.size (tbCells b) b.t ∧ OffT base V b
  ord : B ≤ gv ∧ gv < gl ∧ gl < gn ∧ gn < gt ∧ gt < base
  sz : base ≤ wr.heap.size
/-- What else stands, stands on. -/
structure Fr10 (B gn gl : Nat) (V : Value) (w : World) (V' : Value) (w' : World) : Prop where
  bel : Below B w w'
  blk : ∀ k, k < w.heap.size → k ≠ gn → k ≠ gl → some k ≠ V.ownBlock → w'.heap[k]? = w.heap[k]?
  lie : ∀ k, k < w.heap.size → V'.ownBlock = some k → V.ownBlock = some k
theorem Fr10.refl (B gn gl : Nat) (V : Value) (w : World) : Fr10 B gn gl V w V w := ⟨Below.refl _ _, fun _ _ _ _ _ => rfl, fun _ _ h => h⟩
theorem Fr10.trans {B gn gl : Nat} {V V1 V2 : Value} {w w1 w2 : World} (h : Fr10 B gn gl V w V1 w1) (k : Fr10 B gn gl V1 w1 V2 w2) : Fr10 B gn gl V w V2 w2 :=
  ⟨h.bel.trans k.bel, fun q h1 h2 h3 h4 => (k.blk q (Nat.lt_of_lt_of_le h1 h.bel.size) h2 h3 (fun e => h4 (h.lie q h1 e.symm).symm)).trans (h.blk q h1 h2 h3 h4), fun q h1 h2 => h.lie q h1 (k.lie q (Nat.lt_of_lt_of_le h1 h.bel.size) h2)⟩
theorem Fr10.of_below {B gn gl : Nat} {V : Value} {w w' : World} (h : Below w.heap.size w w') (hB : B ≤ w.heap.size) : Fr10 B gn gl V w V w' := ⟨h.mono hB, fun k hk _ _ _ => h.block k hk, fun _ _ e => e⟩
theorem tk_far {w w' : World} {b : TB} (h : TkC.R w w.heap.size (tbCells b) b.t) (hs : w.heap.size ≤ w'.heap.size) (hk : 0 < b.t.attrs.length → ∀ ad, b.A = some ad → ad.block < w.heap.size → w'.heap[ad.block]? = w.heap[ad.block]?) : TkC.R w' w'.heap.size (tbCells b) b.t := by
  obtain ⟨x', A', c', u', e1, e2, e3, e4, e5, e6, e7, e8⟩ := h
  have e1' := e1
  unfold tbCells at e1'
  injection e1' with _ e1'
  injection e1' with _ e1'
  injection e1' with e9 _
  injection e9 with e9 _ _
  subst e9
  refine ⟨x', _, c', u', e1, e2, e3, e4, e5, e6, e7, fun hp => ?_⟩
  obtain ⟨bb, off, e, hlt, hc⟩ := e8 hp
  refine ⟨bb, off, e, Nat.lt_of_lt_of_le hlt hs, fun j hj => ?_⟩
  obtain ⟨cs, k1, k2⟩ := hc j hj
  exact ⟨cs, k1, fun i hi => (cell_blk (hk hp _ e hlt)).trans (k2 i hi)⟩
theorem tk_lt {w : World} {b : TB} (h : TkC.R w w.heap.size (tbCells b) b.t) (hp : 0 < b.t.attrs.length) (ad : Addr) (e : b.A = some ad) : ad.block < w.heap.size := by
  obtain ⟨x', A', c', u', e1, e2, e3, e4, e5, e6, e7, e8⟩ := h
  have e1' := e1
  unfold tbCells at e1'
  injection e1' with _ e1'
  injection e1' with _ e1'
  injection e1' with e9 _
  injection e9 with e9 _ _
  obtain ⟨bb, off, e10, hlt, _⟩ := e8 hp
  rw [e9] at e
  rw [e] at e10
  injection e10 with e10
  rw [e10]
  exact hlt
section
variable {B base gv gn gl gt : Nat} {A : Option Addr} {c : Nat} {v : List Nd} {p : Nat} {L : List TB} {V : Value} {wr : World}
theorem TlSt.below (h : TlSt B base gv gn gl gt A c v p L V wr) {w' : World} (k : Below wr.heap.size wr w') : TlSt B base gv gn gl gt A c v p L V w' :=
  ⟨kept_heap h.hv k, kept_heap h.hn k, kept_heap h.hl k, kept_heap h.ht k, h.rd.keep (fun _ hb => hb) fun b o hb => k.cell (p := ⟨b, o, none⟩) (by have := h.ord.1; have := lt_heap h.hv; show b < _; omega), own_belowK h.own k (Nat.le_refl _),
   fun b hb => ⟨tk_far (h.tk b hb).1 k.size fun _ ad _ hlt => k.block _ hlt, (h.tk b hb).2⟩, h.ord, Nat.le_trans h.sz k.size⟩
theorem TlSt.setn (h : TlSt B base gv gn gl gt A c v p L V wr) (p' : Nat) : TlSt B base gv gn gl gt A c v p' L V (wr.setCell ⟨gn, 0, none⟩ (.int .i64 (p' : Int))) ∧ Fr10 B gn gl V wr V (wr.setCell ⟨gn, 0, none⟩ (.int .i64 (p' : Int))) := by
  have ho := h.ord
  have other : ∀ q, q ≠ gn → (wr.setCell ⟨gn, 0, none⟩ (.int .i64 (p' : Int))).heap[q]? = wr.heap[q]? := fun q hq => set_other wr gn 0 q _ hq
  refine ⟨⟨(other gv (by omega)).trans h.hv, one_setCell h.hn, (other gl (by omega)).trans h.hl, (other gt (by omega)).trans h.ht, h.rd.keep (fun _ hb => hb) fun b o hb => cell_blk (other b (by omega)), own_setCell h.own gn 0 (by omega) _,
    fun b hb => ⟨tk_far (h.tk b hb).1 (by simp [World.setCell]) fun hp ad e _ => other _ (by have := ((h.tk b hb).2 hp ad e).2; omega), (h.tk b hb).2⟩, h.ord, by have := h.sz; simpa [World.setCell] using this⟩,
    (Below.refl B wr).setCell (p := ⟨gn, 0, none⟩) (by show B ≤ gn; omega) _, fun k _ hk _ _ => other k hk, fun _ _ e => e⟩
theorem TlSt.push (h : TlSt B base gv gn gl gt A c v p L V wr) {b : TB} {ob : Obj} {w6 : World} {g4 c4 : Nat} (hR : TkC.R wr wr.heap.size (tbCells b) b.t) (hO : OffT base V b)
    (hown : w6.ownsRow base 82 4 (.slice (some ⟨g4, 0, none⟩) (L.length + 1) c4) (L.length + 1) (L.flatMap tbCells ++ tbCells b)) (hgr : (wr.alloc ob).grownBy w6 V.ownBlock) (hlie : V.ownBlock = some g4 ∨ g4 = wr.heap.size + 1) :
    TlSt B base gv gn gl gt A c v p (L ++ [b]) (.slice (some ⟨g4, 0, none⟩) (L.length + 1) c4) (w6.setCell ⟨gl, 0, none⟩ (.slice (some ⟨g4, 0, none⟩) (L.length + 1) c4)) ∧
    Fr10 B gn gl V wr (.slice (some ⟨g4, 0, none⟩) (L.length + 1) c4) (w6.setCell ⟨gl, 0, none⟩ (.slice (some ⟨g4, 0, none⟩) (L.length + 1) c4)) := by
  have ho := h.ord
  have hsz := h.sz
  have hs6 := hgr.size
  rw [World.size_alloc] at hs6
  have hV : ∀ q, V.ownBlock = some q → base ≤ q ∧ q < wr.heap.size := fun q hq => h.own.lt q hq
  have stay : ∀ q, q < wr.heap.size → some q ≠ V.ownBlock → w6.heap[q]? = wr.heap[q]? := fun q hq hne => by
    rw [hgr.block q (by rw [World.size_alloc]; omega) hne, Below.heap_alloc _ _ _ hq]
  have low : ∀ q, q < base → some q ≠ V.ownBlock := fun q hq e => by have := (hV q e.symm).1; omega
  have all : ∀ q, q < wr.heap.size → q ≠ gl → some q ≠ V.ownBlock → (w6.setCell ⟨gl, 0, none⟩ (.slice (some ⟨g4, 0, none⟩) (L.length + 1) c4)).heap[q]? = wr.heap[q]? := fun q hq hne hne2 => (set_other w6 gl 0 q _ hne).trans (stay q hq hne2)
  have hlen : (L ++ [b]).length = L.length + 1 := by simp
  have new : ∀ (b' : TB), TkC.R wr wr.heap.size (tbCells b') b'.t → OffT base V b' → TkC.R (w6.setCell ⟨gl, 0, none⟩ (.slice (some ⟨g4, 0, none⟩) (L.length + 1) c4)) (w6.setCell ⟨gl, 0, none⟩ (.slice (some ⟨g4, 0, none⟩) (L.length + 1) c4)).heap.size (tbCells b') b'.t ∧ OffT base (.slice (some ⟨g4, 0, none⟩) (L.length + 1) c4) b' := fun b' h1 h2 =>
    ⟨tk_far h1 (by simp [World.setCell]; omega) fun hp ad e hlt => all _ hlt (by have := (h2 hp ad e).2; omega) (h2 hp ad e).1, fun hp ad e => ⟨fun e2 => by
      have e3 : ad.block = g4 := by simpa [Value.ownBlock] using e2
      rcases hlie with e4 | e4
      · exact (h2 hp ad e).1 (by rw [e4, e3])
      · have := tk_lt h1 hp ad e; omega, (h2 hp ad e).2⟩⟩
  refine ⟨⟨(all gv (by omega) (by omega) (low _ (by omega))).trans h.hv, (all gn (by omega) (by omega) (low _ (by omega))).trans h.hn, one_setCell ((stay gl (by omega) (low _ (by omega))).trans h.hl), (all gt (by omega) (by omega) (low _ (by omega))).trans h.ht,
    h.rd.keep (fun _ hb => hb) fun q o hb => cell_blk (all q (by omega) (by omega) (low _ (by omega))), ?_, fun b' hb => ?_, h.ord, by simp [World.setCell]; omega⟩, ?_, fun k hk _ h2 h3 => all k hk h2 h3, fun k hk e => ?_⟩
  · have := own_setCell hown gl 0 (by omega) (.slice (some ⟨g4, 0, none⟩) (L.length + 1) c4)
    rw [hlen, List.flatMap_append]
    simpa [tbCells] using this
  · rcases List.mem_append.1 hb with hb | hb
    · exact new b' (h.tk b' hb).1 (h.tk b' hb).2
    · obtain rfl := List.mem_singleton.1 hb
      exact new _ hR hO
  · exact (((Below.refl B wr).alloc (by omega) ob).grown hgr (by rw [World.size_alloc]; omega) (fun q hq => by have := (hV q hq).1; omega)).setCell (p := ⟨gl, 0, none⟩) (by show B ≤ gl; omega) _
  · have e3 : g4 = k := by simpa [Value.ownBlock] using e
    rcases hlie with e4 | e4
    · rw [e4, e3]
    · omega
end
theorem toldK_snoc {g : List Nd → List Tk × List Nd} : ∀ (j : Nat) (l : List Nd), toldK g (j + 1) l = ((toldK g j l).1 ++ (g (toldK g j l).2).1, (g (toldK g j l).2).2) := by
  intro j
  induction j with
  | zero => intro l; simp [toldK]
  | succ j ih =>
    intro l
    have h1 : ∀ k, toldK g (k + 1) l = ((g l).1 ++ (toldK g k (g l).2).1, (toldK g k (g l).2).2) := fun k => by simp [toldK]
    rw [h1 (j + 1), ih, h1 j]
    simp
/-- A token without attributes; one of a tag. -/
theorem tk_plain (w : World) (k : Nat) (hk : k < 256) (x u : ByteArray) : TkC.R w w.heap.size (tbCells ⟨x, none, 0, u, ⟨k, x.data.toList, [], u.data.toList⟩⟩) ⟨k, x.data.toList, [], u.data.toList⟩ :=
  ⟨x, none, 0, u, rfl, hk, rfl, rfl, Nat.le_refl _, Nat.zero_le _, fun _ => rfl, RdC.nil _ _ _⟩
theorem off_plain (base : Nat) (V : Value) (k : Nat) (x u : ByteArray) : OffT base V ⟨x, none, 0, u, ⟨k, x.data.toList, [], u.data.toList⟩⟩ := fun h => absurd h (by simp)
end Hx
end Go.Proofs.YtbjgfaflikgobaaGreatDoor
