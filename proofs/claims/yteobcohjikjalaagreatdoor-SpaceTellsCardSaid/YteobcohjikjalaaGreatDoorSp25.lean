/-
  Texts of one seat, put together: TreW.
-/
import Derived.Test.YteobcohjikjalaaGreatDoorSp24
import Derived.Test.YteobcohjikjalaaGreatDoorSp21
import Derived.Test.YteobcohjikjalaaGreatDoorSp19
import Derived.Deep.RegionHeld3
set_option linter.unusedSimpArgs false
namespace Go.Proofs.YteobcohjikjalaaGreatDoor
open Go.RowKit
namespace Hx
open Lx Tr Tx Nmb Es
set_option maxRecDepth 100000
set_option maxHeartbeats 16000000
set_option linter.unusedVariables false
def NBox (B : Nat) (k : Int) (x y z : ByteArray) (v : Value) (m : Int) (w : World) : Prop :=
  w.cell? ⟨B, 1, none⟩ = some (.string x) ∧ w.cell? ⟨B, 2, none⟩ = some (.string y) ∧ w.cell? ⟨B, 4, none⟩ = some (.string z) ∧
  w.frozen? ⟨B, 1, none⟩ = false ∧ w.frozen? ⟨B, 2, none⟩ = false ∧ w.frozen? ⟨B, 4, none⟩ = false ∧ w.heap[B]? = some (.cells #[.int .u8 k, .string x, .string y, v, .string z, .int .i64 m] 39 (0, 0))
theorem NBox.of {B : Nat} {k : Int} {x y z : ByteArray} {v : Value} {m : Int} {w : World} (h : w.heap[B]? = some (.cells #[.int .u8 k, .string x, .string y, v, .string z, .int .i64 m] 39 (0, 0))) : NBox B k x y z v m w :=
  ⟨cellV w B 1 _ _ _ h, cellV w B 2 _ _ _ h, cellV w B 4 _ _ _ h, freeV w B 1 _ _ h, freeV w B 2 _ _ h, freeV w B 4 _ _ h, h⟩
theorem NBox.below {B : Nat} {k : Int} {x y z : ByteArray} {v : Value} {m : Int} {w w' : World} (h : NBox B k x y z v m w) (hb : Below w.heap.size w w') : NBox B k x y z v m w' := NBox.of (kept_heap h.2.2.2.2.2.2 hb)
theorem NBox.set1 {B : Nat} {k : Int} {x y z : ByteArray} {v : Value} {m : Int} {w : World} (h : NBox B k x y z v m w) : NBox B k x y z v m (w.setCell ⟨B, 1, none⟩ (.string x)) := NBox.of (heap_setCell_same w B 1 _ _ _ h.2.2.2.2.2.2)
theorem NBox.set2 {B : Nat} {k : Int} {x y z : ByteArray} {v : Value} {m : Int} {w : World} (h : NBox B k x y z v m w) : NBox B k x y z v m (w.setCell ⟨B, 2, none⟩ (.string y)) := NBox.of (heap_setCell_same w B 2 _ _ _ h.2.2.2.2.2.2)
theorem NBox.set4 {B : Nat} {k : Int} {x y z : ByteArray} {v : Value} {m : Int} {w : World} (h : NBox B k x y z v m w) : NBox B k x y z v m (w.setCell ⟨B, 4, none⟩ (.string z)) := NBox.of (heap_setCell_same w B 4 _ _ _ h.2.2.2.2.2.2)
def ABox (B : Nat) (x y z : ByteArray) (w : World) : Prop :=
  w.cell? ⟨B, 0, none⟩ = some (.string x) ∧ w.cell? ⟨B, 1, none⟩ = some (.string y) ∧ w.cell? ⟨B, 2, none⟩ = some (.string z) ∧ w.heap[B]? = some (.cells #[.string x, .string y, .string z] 41 (0, 0))
theorem ABox.of {B : Nat} {x y z : ByteArray} {w : World} (h : w.heap[B]? = some (.cells #[.string x, .string y, .string z] 41 (0, 0))) : ABox B x y z w := ⟨cellV w B 0 _ _ _ h, cellV w B 1 _ _ _ h, cellV w B 2 _ _ _ h, h⟩
theorem ABox.below {B : Nat} {x y z : ByteArray} {w w' : World} (h : ABox B x y z w) (hb : Below w.heap.size w w') : ABox B x y z w' := ABox.of (kept_heap h.2.2.2 hb)
theorem ABox.grown {B : Nat} {x y z : ByteArray} {w w' : World} {row : Option Nat} (h : ABox B x y z w) (hg : w.grownBy w' row) (hne : some B ≠ row) : ABox B x y z w' := ABox.of ((hg.block B (lt_heap h.2.2.2) hne).trans h.2.2.2)
def AtSt (B : Nat) (box : Obj) (ww : World) (l : List At) (j : Nat) (v : Value) (wi : World) : Prop :=
  wi.ownsRow (B + 1) 41 3 v j (((l.take j).map abOf).flatMap abCells) ∧ wi.heap[B]? = some box ∧ Below ww.heap.size ww wi
theorem AtSt.next {B : Nat} {box : Obj} {ww wi w3 w4 : World} {l : List At} {j : Nat} {v v4 : Value} {x y z : ByteArray} {o : Obj} (h : AtSt B box ww l j v wi) (hB : ww.heap.size ≤ B) (hj : j < l.length) (hx : x.data.toList = (l[j]'hj).space) (hy : y.data.toList = (l[j]'hj).name) (hz : z.data.toList = (l[j]'hj).value)
    (hb : Below wi.heap.size wi w3) (hown : w4.ownsRow (B + 1) 41 3 v4 (j + 1) (((l.take j).map abOf).flatMap abCells ++ [.string x, .string y, .string z])) (hgr : (w3.alloc o).grownBy w4 v.ownBlock) : AtSt B box ww l (j + 1) v4 w4 := by
  have hb2 : Below wi.heap.size wi (w3.alloc o) := stpA hb _
  have h2 := kept_heap h.2.1 hb2
  have hne : ∀ k, v.ownBlock = some k → B + 1 ≤ k := fun k hk => (h.1.lt k hk).1
  refine ⟨?_, (hgr.block B (lt_heap h2) (fun e => by have := hne B e.symm; omega)).trans h2, (stp h.2.2 hb2).grown hgr (Nat.le_trans h.2.2.size hb2.size) fun k hk => by have := hne k hk; omega⟩
  have ea : abOf (l[j]'hj) = ⟨x, y, z⟩ := by
    unfold abOf
    rw [← hx, ← hy, ← hz]
  rw [List.take_succ_eq_append_getElem hj, List.map_append, List.flatMap_append, List.map_singleton, ea]
  simpa [abCells] using hown
theorem twin10 (A : Option Addr) (n c : Nat) (v : List Nd) (w : World) (hr : RdB NdS w A v) (hn : v.length = n) (hm : n ≤ 100000) (hsm : ∀ x ∈ v, SmallN x) :
    Calls Tryz.prog 21 #[.slice A n c] w (TwinTo v w) := by
  obtain ⟨i0, hi, hz0, hz1, hz2⟩ := info_parts infoNd
  obtain ⟨j0, hj, hy0, hy1, hy2⟩ := info_parts infoAt
  have HI := Lib.hid hi
  have HZ0 := Lib.hid hz0
  have HZ1 := Lib.hid hz1
  have HZ2 := Lib.hid hz2
  have HJ := Lib.hid hj
  have HY0 := Lib.hid hy0
  have HY1 := Lib.hid hy1
  have HY2 := Lib.hid hy2
  have HR := Lib.hid hr
  have HN := Lib.hid hn
  have HM := Lib.hid hm
  have HSM := Lib.hid hsm
  clear hi hz0 hz1 hz2 hj hy0 hy1 hy2 hr hn hm hsm
  go_enter Tryz.func21, Tryz.ntmps21
  go_wp2_with fail
  go_loopg [3, 11] n (fun gg x3 i wr => ∃ L : List NB, L.length + gg = n ∧ i = .int .i64 L.length ∧ L.map NB.n = v.take L.length ∧ NdSt w.heap.size w L x3 wr)
  case atStart => exact ⟨[], by simp, rfl, rfl, NdSt.nil _ (Below.refl _ _)⟩
  case round =>
    obtain ⟨L, hk, rfl, hmap, hst⟩ := hrel
    obtain ⟨Ao, co, rfl⟩ := own_form2 hst.1
    obtain ⟨ww, rfl⟩ : ∃ ww : World, ww = wr := ⟨_, rfl⟩
    obtain ⟨g0, rfl⟩ : ∃ g0 : Nat, g0 = gk := ⟨_, rfl⟩
    have HST := Lib.hid hst
    have h6 := HM.out
    by_cases hlt : L.length < n
    · have hk1 : L.length < v.length := by rw [HN.out]; exact hlt
      have hbw := hst.2.2
      obtain ⟨b0, off, x, y, z, a1, p1, hA, hbB, hin, c0w, c1w, c2w, c3w, c4w, c5w⟩ := nd_at HR.out hk1
      obtain ⟨t, ht⟩ : ∃ t, v[L.length]'hk1 = t := ⟨_, rfl⟩
      have hal := HSM.out _ (List.getElem_mem hk1)
      rw [ht] at hin c0w c3w c5w hal
      have HM2 : Hid ((L.map NB.n) ++ [t] = v.take (L.length + 1)) := Lib.hid (by rw [hmap, List.take_succ_eq_append_getElem hk1, ht])
      have c0 := (hbw.cell (p := ⟨b0, _, none⟩) hbB).trans c0w
      have c1 := (hbw.cell (p := ⟨b0, _, none⟩) hbB).trans c1w
      have c2 := (hbw.cell (p := ⟨b0, _, none⟩) hbB).trans c2w
      have c3 := (hbw.cell (p := ⟨b0, _, none⟩) hbB).trans c3w
      have c4 := (hbw.cell (p := ⟨b0, _, none⟩) hbB).trans c4w
      have c5 := (hbw.cell (p := ⟨b0, _, none⟩) hbB).trans c5w
      have HIN := Lib.hid hin
      have HRP : Hid (∀ W, Below w.heap.size w W → RdB AtS W a1 t.attrs) := Lib.hid fun W hW => RdB.on hin.attrs hW
      have HXS : Hid (x.size ≤ 1000000) := Lib.hid (by rw [← ba_l, hin.space]; exact hal.space)
      have HYS : Hid (y.size ≤ 1000000) := Lib.hid (by rw [← ba_l, hin.name]; exact hal.name)
      have HZS : Hid (z.size ≤ 1000000) := Lib.hid (by rw [← ba_l, hin.text]; exact hal.text)
      have HAL := Lib.hid hal
      have HBW0 := Lib.hid hbw
      have HGK := Lib.hid hk
      have HLT := Lib.hid hlt
      have bk : (0 : Int) ≤ (L.length : Int) ∧ (L.length : Int) < (n : Int) := by omega
      have bal : (t.attrs.length : Int) ≤ 1000000 := by have := hal.attrs; omega
      subst hA
      clear hst ht hbw hmap hk1 hin hal c0w c1w c2w c3w c4w c5w hbB hk hlt
      go_wp2_with fail
      have hbox : NBox ww.heap.size (t.kind : Int) x y z (.slice a1 t.attrs.length p1) t.many (ww.alloc (.cells #[.int .u8 (t.kind : Int), .string x, .string y, .slice a1 t.attrs.length p1, .string z, .int .i64 t.many] 39)) := NBox.of (heap_alloc_new ww _)
      have HBX : Hid (NBox ww.heap.size (t.kind : Int) x y z (.slice a1 t.attrs.length p1) t.many (ww.alloc (.cells #[.int .u8 (t.kind : Int), .string x, .string y, .slice a1 t.attrs.length p1, .string z, .int .i64 t.many] 39)).drew) := Lib.hid (NBox.of (heap_alloc_new ww _))
      clear c0 c1 c2 c3 c4 c5
      go_region_held3 (fun w' => w'.cell? ⟨ww.heap.size, 1, none⟩ = some (.string x) ∧ w'.cell? ⟨ww.heap.size, 2, none⟩ = some (.string y) ∧ w'.cell? ⟨ww.heap.size, 4, none⟩ = some (.string z) ∧ w'.frozen? ⟨ww.heap.size, 1, none⟩ = false ∧ w'.frozen? ⟨ww.heap.size, 2, none⟩ = false ∧ w'.frozen? ⟨ww.heap.size, 4, none⟩ = false ∧ w'.heap[ww.heap.size]? = some (.cells #[.int .u8 (t.kind : Int), .string x, .string y, .slice a1 t.attrs.length p1, .string z, .int .i64 t.many] 39 (0, 0)))
        (first | exact HBX.out | exact HBX.out.below hb1 | exact (HBX.out.below hb1).below hb2 | exact ((HBX.out.below hb1).below hb2).below hb3 | exact (((HBX.out.below hb1).below hb2).below hb3).set1 | exact (((HBX.out.below hb1).below hb2).below hb3).set1.set2 | exact (((HBX.out.below hb1).below hb2).below hb3).set1.set2.set4)
        ((first
          | (go_at_call 44; (with_reducible refine (clone9 x _ HXS.out).mono ?_); rintro e1 w1 ⟨rfl, hb1⟩)
          | (go_at_call 44; (with_reducible refine (clone9 y _ HYS.out).mono ?_); rintro e2 w2 ⟨rfl, hb2⟩)
          | (go_at_call 44; (with_reducible refine (clone9 z _ HZS.out).mono ?_); rintro e3 w3 ⟨rfl, hb3⟩)))
      obtain ⟨W5, hW5⟩ : ∃ W5, ((w3.setCell ⟨ww.heap.size, 1, none⟩ (.string x)).setCell ⟨ww.heap.size, 2, none⟩ (.string y)).setCell ⟨ww.heap.size, 4, none⟩ (.string z) = W5 := ⟨_, rfl⟩
      rw [hW5]
      have HX5 : Hid (NBox ww.heap.size (t.kind : Int) x y z (.slice a1 t.attrs.length p1) t.many W5) := Lib.hid (by rw [← hW5]; exact (((HBX.out.below hb1).below hb2).below hb3).set1.set2.set4)
      have HB5 : Hid (Below ww.heap.size ww W5) := Lib.hid (by rw [← hW5]; exact (((stp (stp (stp (stpA (Below.refl _ _) _).drew hb1) hb2) hb3).setCell (p := ⟨ww.heap.size, 1, none⟩) (Nat.le_refl _) _).setCell (p := ⟨ww.heap.size, 2, none⟩) (Nat.le_refl _) _).setCell (p := ⟨ww.heap.size, 4, none⟩) (Nat.le_refl _) _)
      have HA0 : Hid (AtSt ww.heap.size (.cells #[.int .u8 (t.kind : Int), .string x, .string y, .slice a1 t.attrs.length p1, .string z, .int .i64 t.many] 39 (0, 0)) ww t.attrs 0 (.slice none 0 0) W5) := Lib.hid ⟨World.ownsRow_nil _ _ _ _, HX5.out.2.2.2.2.2.2, HB5.out⟩
      have k3 := cellV W5 _ 3 _ _ _ HX5.out.2.2.2.2.2.2
      clear hW5 hb1 hb2 hb3
      rcases a1 with _ | ⟨b2, of2, sp⟩
      · go_wp2_with fail
        go_loopg [6, 30] t.attrs.length (fun gg x6 i wi => ∃ j : Nat, j + gg = t.attrs.length ∧ i = .int .i64 j ∧ AtSt ww.heap.size (.cells #[.int .u8 (t.kind : Int), .string x, .string y, .slice none t.attrs.length p1, .string z, .int .i64 t.many] 39 (0, 0)) ww t.attrs j x6 wi)
        case atStart => exact ⟨0, by omega, rfl, HA0.out⟩
        case round =>
          obtain ⟨j, hjg, rfl, hst⟩ := hrel
          obtain ⟨Aa, ca, rfl⟩ := own_form2 hst.1
          have HAS := Lib.hid hst
          clear k3
          by_cases hlj : j < t.attrs.length
          · obtain ⟨_, _, _, _, _, e, _⟩ := at_at (HRP.out _ (stp HBW0.out hst.2.2)) hlj
            cases e
          · obtain rfl : j = t.attrs.length := by omega
            have hown := hst.1
            rw [List.take_length] at hown
            have HO3 := Lib.hid hown
            have k2 := cellV wr _ 3 _ _ _ hst.2.1
            have f2 := freeV wr _ 3 _ _ hst.2.1
            have HS3 := Lib.hid (And.intro (heap_setCell_same wr ww.heap.size 3 _ _ (.slice Aa t.attrs.length ca) hst.2.1) (hst.2.2.setCell (p := ⟨ww.heap.size, 3, none⟩) (Nat.le_refl _) (.slice Aa t.attrs.length ca)))
            clear hst hown
            go_wp2_with (first
              | (refine wpList_load_row rfl _ _ rfl ww.heap.size rfl 39 #[.int .u8 (t.kind : Int), .string x, .string y, .slice Aa t.attrs.length ca, .string z, .int .i64 t.many] (0, 0) _ HS3.out.1 Tryz.underlying39 rfl infoNdS ?_)
              | (at_builtin; refine wpList_append_own_at _ rfl (.tmp 50) (.tmp 52) 22 rfl w.heap.size 39 i0 (.agg #[.int .u8 0, .string ⟨#[]⟩, .string ⟨#[]⟩, .slice none 0 0, .string ⟨#[]⟩, .int .i64 0]) 6 88 Tryz.underlying22 HI.out HZ0.out HZ1.out HZ2.out rfl (by decide) _ L.length _ rfl ((HST.out.below HS3.out.2).below (stpA (Below.refl _ _) _)).1 ⟨wr.heap.size, 0, none⟩ 1 1 [.int .u8 (t.kind : Int), .string x, .string y, .slice Aa t.attrs.length ca, .string z, .int .i64 t.many] rfl rfl (new_at (wr.setCell ⟨ww.heap.size, 3, none⟩ (.slice Aa t.attrs.length ca)) [.int .u8 (t.kind : Int), .string x, .string y, .slice Aa t.attrs.length ca, .string z, .int .i64 t.many] 39 wr.heap.size (World.size_setCell _ _ _)) (nd_ones _ _ _ _ _ _ _ _) (by have := HLT.out; unfold maxLen; omega) (by have := HLT.out; omega) (by have := HST.out.2.2.size; have := HS3.out.2.size; simp at this ⊢; omega) ?_; intro v5 w5 hown5 hgr5 _ hlie; obtain ⟨A5, c5', rfl⟩ := own_form2 hown5; have HX5' := Lib.hid (twin_fin HST.out (stpA HS3.out.2 (.cells #[.int .u8 (t.kind : Int), .string x, .string y, .slice Aa t.attrs.length ca, .string z, .int .i64 t.many] 39)) (Nat.le_refl _) HIN.out.space HIN.out.name HIN.out.text HIN.out.kd HIN.out.lo HIN.out.hi (own_belowK (own_setCell HO3.out ww.heap.size 3 (by omega) (.slice Aa t.attrs.length ca)) (stpA (Below.refl _ _) _) (Nat.le_refl _)) hown5 hgr5 hlie); clear hown5 hgr5 hlie)
              | fail)
            go_roundg (g0 - 1)
            case rel => exact ⟨_, by have := HGK.out; have := HLT.out; rw [List.length_append]; simp; omega, by simp, by rw [List.map_append, List.length_append]; exact HM2.out, HX5'.out⟩
            case measure => have := HGK.out; have := HLT.out; omega
      · go_wp2_with fail
        go_loopg [6, 30] t.attrs.length (fun gg x6 i wi => ∃ j : Nat, j + gg = t.attrs.length ∧ i = .int .i64 j ∧ AtSt ww.heap.size (.cells #[.int .u8 (t.kind : Int), .string x, .string y, .slice (some ⟨b2, of2, sp⟩) t.attrs.length p1, .string z, .int .i64 t.many] 39 (0, 0)) ww t.attrs j x6 wi)
        case atStart => exact ⟨0, by omega, rfl, HA0.out⟩
        case round =>
          obtain ⟨j, hjg, rfl, hst⟩ := hrel
          obtain ⟨Aa, ca, rfl⟩ := own_form2 hst.1
          have HAS := Lib.hid hst
          clear k3
          by_cases hlj : j < t.attrs.length
          · have hbi := stp HBW0.out hst.2.2
            obtain ⟨b3, of3, x2, y2, z2, ha1, hb2B, hx2, hy2, hz2, d0, d1, d2⟩ := at_at (HRP.out _ hbi) hlj
            injection ha1 with ha1
            injection ha1 with ha1 ha2 ha3
            subst ha1 ha2 ha3
            have hea := HAL.out.each _ (List.getElem_mem hlj)
            rw [← hx2, ← hy2, ← hz2, ba_l, ba_l, ba_l] at hea
            have HX2S := Lib.hid hea.1
            have HY2S := Lib.hid hea.2.1
            have HZ2S := Lib.hid hea.2.2
            have HEQ2 : Hid (∀ {w3 w4 : World} {v4 : Value} {o : Obj}, Below wr.heap.size wr w3 → w4.ownsRow (ww.heap.size + 1) 41 3 v4 (j + 1) (((t.attrs.take j).map abOf).flatMap abCells ++ [.string x2, .string y2, .string z2]) → (w3.alloc o).grownBy w4 (Value.slice Aa j ca).ownBlock → AtSt ww.heap.size (.cells #[.int .u8 (t.kind : Int), .string x, .string y, .slice (some ⟨b2, of2, none⟩) t.attrs.length p1, .string z, .int .i64 t.many] 39 (0, 0)) ww t.attrs (j + 1) v4 w4) := Lib.hid fun h1 h2 h3 => AtSt.next HAS.out (Nat.le_refl _) hlj hx2 hy2 hz2 h1 h2 h3
            have HBX2 : Hid (ABox wr.heap.size x2 y2 z2 (wr.alloc (.cells #[.string x2, .string y2, .string z2] 41)).drew) := Lib.hid (ABox.of (heap_alloc_new wr _))
            have HAL5 : Hid (j + 1 ≤ 1000000) := Lib.hid (by have := HAL.out.attrs; omega)
            have bj : (0 : Int) ≤ (j : Int) ∧ (j : Int) < (t.attrs.length : Int) := by omega
            have HWS : Hid (ww.heap.size + 1 ≤ wr.heap.size) := Lib.hid (lt_heap hst.2.1)
            have hrow : Hid (∀ k, (Value.slice Aa j ca).ownBlock = some k → k < wr.heap.size) := Lib.hid fun k hk => (hst.1.lt k hk).2
            clear hst hbi hx2 hy2 hz2 hea
            go_wp2_with fail
            clear d0 d1 d2
            go_region_held3 (fun w' => w'.cell? ⟨wr.heap.size, 0, none⟩ = some (.string x2) ∧ w'.cell? ⟨wr.heap.size, 1, none⟩ = some (.string y2) ∧ w'.cell? ⟨wr.heap.size, 2, none⟩ = some (.string z2) ∧ w'.heap[wr.heap.size]? = some (.cells #[.string x2, .string y2, .string z2] 41 (0, 0)))
              (first | exact HBX2.out | exact HBX2.out.below hb1 | exact (HBX2.out.below hb1).below hb2 | exact ((HBX2.out.below hb1).below hb2).below hb3 | exact (((HBX2.out.below hb1).below hb2).below hb3).below (stpA (Below.refl _ _) _) | exact ((((HBX2.out.below hb1).below hb2).below hb3).below (stpA (Below.refl _ _) _)).grown hgr4 (fun e => by have := hrow.out _ e.symm; omega))
              ((first
                | (go_at_call 44; (with_reducible refine (clone9 x2 _ HX2S.out).mono ?_); rintro e1 w1 ⟨rfl, hb1⟩)
                | (go_at_call 44; (with_reducible refine (clone9 y2 _ HY2S.out).mono ?_); rintro e2 w2 ⟨rfl, hb2⟩)
                | (go_at_call 44; (with_reducible refine (clone9 z2 _ HZ2S.out).mono ?_); rintro e3 w3 ⟨rfl, hb3⟩)
                | (refine step_append_lies _ (by rfl) (.tmp 34) (.tmp 45) 37 (by rfl) (ww.heap.size + 1) 41 j0 (.agg #[.string ⟨#[]⟩, .string ⟨#[]⟩, .string ⟨#[]⟩]) 3 48 Tryz.underlying37 HJ.out HY0.out HY1.out HY2.out rfl (by decide) _ j _ (by rfl) (own_belowK HAS.out.1 (stpA (stp (stp (stp (stpA (Below.refl _ _) _).drew hb1) hb2) hb3) _) (Nat.le_refl _)) ⟨w3.heap.size, 0, none⟩ 1 1 [.string x2, .string y2, .string z2] (by rfl) (by rfl) (new_at w3 [.string x2, .string y2, .string z2] 41 _ rfl) (by simp [Value.oneCell']) (by decide) (by have := HAL5.out; unfold maxLen; omega) (by have := HAL5.out; omega) (by have := HWS.out; have := hb1.size; have := hb2.size; have := hb3.size; simp at *; omega) (w3.heap.size + 1) (by simp) ?_; intro gg cap w4 hown4 hgr4 hat4 hlt4)))
            have HA1 := Lib.hid (HEQ2.out (stp (stp (stp (stpA (Below.refl _ _) _).drew hb1) hb2) hb3) hown4 hgr4)
            clear hb1 hb2 hb3 hown4 hgr4 hat4 hlt4
            go_wp2_with fail
            go_roundg (gk - 1)
            case rel => exact ⟨j + 1, by omega, by go_num, HA1.out⟩
            case measure => omega
          · obtain rfl : j = t.attrs.length := by omega
            have hown := hst.1
            rw [List.take_length] at hown
            have HO3 := Lib.hid hown
            have k2 := cellV wr _ 3 _ _ _ hst.2.1
            have f2 := freeV wr _ 3 _ _ hst.2.1
            have HS3 := Lib.hid (And.intro (heap_setCell_same wr ww.heap.size 3 _ _ (.slice Aa t.attrs.length ca) hst.2.1) (hst.2.2.setCell (p := ⟨ww.heap.size, 3, none⟩) (Nat.le_refl _) (.slice Aa t.attrs.length ca)))
            clear hst hown
            go_wp2_with (first
              | (refine wpList_load_row rfl _ _ rfl ww.heap.size rfl 39 #[.int .u8 (t.kind : Int), .string x, .string y, .slice Aa t.attrs.length ca, .string z, .int .i64 t.many] (0, 0) _ HS3.out.1 Tryz.underlying39 rfl infoNdS ?_)
              | (at_builtin; refine wpList_append_own_at _ rfl (.tmp 50) (.tmp 52) 22 rfl w.heap.size 39 i0 (.agg #[.int .u8 0, .string ⟨#[]⟩, .string ⟨#[]⟩, .slice none 0 0, .string ⟨#[]⟩, .int .i64 0]) 6 88 Tryz.underlying22 HI.out HZ0.out HZ1.out HZ2.out rfl (by decide) _ L.length _ rfl ((HST.out.below HS3.out.2).below (stpA (Below.refl _ _) _)).1 ⟨wr.heap.size, 0, none⟩ 1 1 [.int .u8 (t.kind : Int), .string x, .string y, .slice Aa t.attrs.length ca, .string z, .int .i64 t.many] rfl rfl (new_at (wr.setCell ⟨ww.heap.size, 3, none⟩ (.slice Aa t.attrs.length ca)) [.int .u8 (t.kind : Int), .string x, .string y, .slice Aa t.attrs.length ca, .string z, .int .i64 t.many] 39 wr.heap.size (World.size_setCell _ _ _)) (nd_ones _ _ _ _ _ _ _ _) (by have := HLT.out; unfold maxLen; omega) (by have := HLT.out; omega) (by have := HST.out.2.2.size; have := HS3.out.2.size; simp at this ⊢; omega) ?_; intro v5 w5 hown5 hgr5 _ hlie; obtain ⟨A5, c5', rfl⟩ := own_form2 hown5; have HX5' := Lib.hid (twin_fin HST.out (stpA HS3.out.2 (.cells #[.int .u8 (t.kind : Int), .string x, .string y, .slice Aa t.attrs.length ca, .string z, .int .i64 t.many] 39)) (Nat.le_refl _) HIN.out.space HIN.out.name HIN.out.text HIN.out.kd HIN.out.lo HIN.out.hi (own_belowK (own_setCell HO3.out ww.heap.size 3 (by omega) (.slice Aa t.attrs.length ca)) (stpA (Below.refl _ _) _) (Nat.le_refl _)) hown5 hgr5 hlie); clear hown5 hgr5 hlie)
              | fail)
            go_roundg (g0 - 1)
            case rel => exact ⟨_, by have := HGK.out; have := HLT.out; rw [List.length_append]; simp; omega, by simp, by rw [List.map_append, List.length_append]; exact HM2.out, HX5'.out⟩
            case measure => have := HGK.out; have := HLT.out; omega
    · obtain hLn : L.length = n := by omega
      have hall : L.map NB.n = v := by rw [hmap, hLn, ← HN.out]; exact List.take_length
      have HO : Hid (TwinTo v w (.returned (.slice Ao L.length co)) ww) := Lib.hid (by
        have h1 := hst.read (Nat.le_refl _)
        rw [hall] at h1
        exact ⟨Ao, co, by rw [hLn, HN.out], h1.1, hst.2.2⟩)
      subst hLn
      clear hst hmap hall
      go_wp2_with fail
      go_ret
      exact HO.out
end Hx
end Go.Proofs.YteobcohjikjalaaGreatDoor
