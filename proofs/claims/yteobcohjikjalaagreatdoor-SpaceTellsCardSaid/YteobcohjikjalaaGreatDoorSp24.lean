/-
  Texts of one seat, put together: TreU, TreT, TreO.
-/
import Derived.Test.YteobcohjikjalaaGreatDoorSp23
import Derived.Test.YteobcohjikjalaaGreatDoorSp14
set_option linter.unusedSimpArgs false
namespace Go.Proofs.YteobcohjikjalaaGreatDoor
open Go.RowKit
namespace Hx
open Lx Tr Tx Nmb Es
set_option linter.unusedVariables false
end Hx
end Go.Proofs.YteobcohjikjalaaGreatDoor
set_option linter.unusedSimpArgs false
namespace Go.Proofs.YteobcohjikjalaaGreatDoor
open Go.RowKit
namespace Hx
open Lx Tr Tx Nmb Es
set_option maxRecDepth 100000
set_option maxHeartbeats 16000000
set_option linter.unusedVariables false
theorem infoNdS : (Tryz.prog.info? 39).map (·.size) = some 6 := by kernel_rfl
theorem nd_ones (k : Int) (x y z : ByteArray) (A : Option Addr) (n c : Nat) (m : Int) : ∀ v ∈ [Value.int .u8 k, .string x, .string y, .slice A n c, .string z, .int .i64 m], v.oneCell' = true := by simp [Value.oneCell']
theorem twin_fin {lo : Nat} {w wr w2 w5 : World} {L : List NB} {v v5 : Value} {n : Nd} {x y z : ByteArray} {A3 : Option Addr} {c3 : Nat} (h : NdSt lo w L v wr) (hb : Below wr.heap.size wr w2) (hlo : lo ≤ w.heap.size)
    (hx : x.data.toList = n.space) (hy : y.data.toList = n.name) (hz : z.data.toList = n.text) (hkd : n.kind < 256) (hlo2 : -9223372036854775808 ≤ n.many) (hhi : n.many ≤ 9223372036854775807)
    (ho3 : w2.ownsRow (wr.heap.size + 1) 41 3 (.slice A3 n.attrs.length c3) n.attrs.length ((n.attrs.map abOf).flatMap abCells))
    (hown : w5.ownsRow w.heap.size 39 6 v5 (L.length + 1) (L.flatMap nbCells ++ [.int .u8 (n.kind : Int), .string x, .string y, .slice A3 n.attrs.length c3, .string z, .int .i64 n.many]))
    (hgr : w2.grownBy w5 v.ownBlock) (hlie : v5.ownBlock = v.ownBlock ∨ v5.ownBlock = some w2.heap.size) : NdSt lo w (L ++ [⟨n, x, y, z, A3, c3⟩]) v5 w5 := by
  have hw := h.2.2.size
  obtain ⟨r1, r2, r3, r4, r5⟩ := ats_own (lo := lo) (w0 := w) (row := v.ownBlock) ho3 (by omega) (fun k hk => by have := (h.1.lt k hk).2; omega)
  refine h.more hb (M := [⟨n, x, y, z, A3, c3⟩]) (fun b hm => ?_) ?_ hgr hlie
  · rw [List.mem_singleton] at hm
    subst hm
    exact ⟨hx, hy, hz, r1, r3, r4, r5, hkd, hlo2, hhi⟩
  · simpa [nbCells, ndCells] using hown
def TwinTo (v : List Nd) (w : World) (e : Ending) (w' : World) : Prop := ∃ A c, e = .returned (.slice A v.length c) ∧ NdOut w.heap.size w v A c w' ∧ Below w.heap.size w w'
theorem rtwin10 (A : Option Addr) (n c : Nat) (v : List Nd) (w : World) (hr : RdB NdS w A v) (hn : v.length = n) (hm : n ≤ 100000) (hat : ∀ x ∈ v, x.attrs.length ≤ 1000000) :
    Calls Tryz.prog 5 #[.slice A n c] w (TwinTo v w) := by
  obtain ⟨i0, hi, hz0, hz1, hz2⟩ := info_parts infoNd
  obtain ⟨j0, hj, hy0, hy1, hy2⟩ := info_parts infoAt
  have HI := Lib.hid hi
  have HZ0 := Lib.hid hz0
  have HZ1 := Lib.hid hz1
  have HZ2 := Lib.hid hz2
  have HJ := Lib.hid hj
  have HY0 := Lib.hid hy0
  have HY1 := Lib.hid hy1
  have HY2 := Lib.hid hy2
  have HR := Lib.hid hr
  have HN := Lib.hid hn
  have HM := Lib.hid hm
  have HAT := Lib.hid hat
  clear hi hz0 hz1 hz2 hj hy0 hy1 hy2 hr hn hm hat
  go_enter Tryz.func5, Tryz.ntmps5
  go_wp2_with fail
  go_loopg [3, 4] n (fun gg x3 i wr => ∃ L : List NB, L.length + gg = n ∧ i = .int .i64 L.length ∧ L.map NB.n = v.take L.length ∧ NdSt w.heap.size w L x3 wr)
  case atStart => exact ⟨[], by simp, rfl, rfl, NdSt.nil _ (Below.refl _ _)⟩
  case round =>
    obtain ⟨L, hk, rfl, hmap, hst⟩ := hrel
    obtain ⟨Ao, co, rfl⟩ := own_form2 hst.1
    have HST := Lib.hid hst
    have h6 := HM.out
    by_cases hlt : L.length < n
    · have hk1 : L.length < v.length := by rw [HN.out]; exact hlt
      have hbw := hst.2.2
      obtain ⟨b0, off, x, y, z, a1, p1, hA, hbB, hin, c0w, c1w, c2w, c3w, c4w, c5w⟩ := nd_at HR.out hk1
      obtain ⟨t, ht⟩ : ∃ t, v[L.length]'hk1 = t := ⟨_, rfl⟩
      have hal := HAT.out _ (List.getElem_mem hk1)
      rw [ht] at hin c0w c3w c5w hal
      have HM2 : Hid ((L.map NB.n) ++ [t] = v.take (L.length + 1)) := Lib.hid (by rw [hmap, List.take_succ_eq_append_getElem hk1, ht])
      have c0 := (hbw.cell (p := ⟨b0, _, none⟩) hbB).trans c0w
      have c1 := (hbw.cell (p := ⟨b0, _, none⟩) hbB).trans c1w
      have c2 := (hbw.cell (p := ⟨b0, _, none⟩) hbB).trans c2w
      have c3 := (hbw.cell (p := ⟨b0, _, none⟩) hbB).trans c3w
      have c4 := (hbw.cell (p := ⟨b0, _, none⟩) hbB).trans c4w
      have c5 := (hbw.cell (p := ⟨b0, _, none⟩) hbB).trans c5w
      have HIN := Lib.hid hin
      have HRP : Hid (∀ W, Below w.heap.size w W → RdB AtS W a1 t.attrs) := Lib.hid fun W hW => RdB.on hin.attrs hW
      have HAL := Lib.hid hal
      have HBW0 := Lib.hid hbw
      have bk : (0 : Int) ≤ (L.length : Int) ∧ (L.length : Int) < (n : Int) := by omega
      subst hA
      clear hst ht hbw hmap hk1 hin hal c0w c1w c2w c3w c4w c5w hbB
      go_wp2_with (first
        | (at_builtin; refine wpList_append_ats rfl (.tmp 16) (.tmp 18) 37 rfl (wr.heap.size + 1) 41 j0 (.agg #[.string ⟨#[]⟩, .string ⟨#[]⟩, .string ⟨#[]⟩]) Tryz.underlying37 HJ.out HY0.out HY1.out HY2.out rfl (.slice (some ⟨wr.heap.size + 1, 0, none⟩) 0 0) rfl (own_emptyB wr _ 41 3) _ a1 t.attrs.length p1 t.attrs rfl (HRP.out _ (HBW0.out.trans ((stpA (stpA (Below.refl _ _) _) _).mono HBW0.out.size))) rfl HIN.out.nil HAL.out (by simp) ?_; intro v3 w3 hown3 hgr3; obtain ⟨A3, c3', rfl⟩ := own_form2 hown3; have HO3 := Lib.hid hown3; have HW3 := Lib.hid (copy_box wr w3 _ _ hgr3); have k2 := cellV w3 _ 3 _ _ _ HW3.out.1; have f2 := freeV w3 _ 3 _ _ HW3.out.1; have HS3 := Lib.hid (And.intro (heap_setCell_same w3 wr.heap.size 3 _ _ (.slice A3 t.attrs.length c3') HW3.out.1) (HW3.out.2.setCell (p := ⟨wr.heap.size, 3, none⟩) (Nat.le_refl _) (.slice A3 t.attrs.length c3'))); clear hown3 hgr3)
        | (refine wpList_load_row rfl _ _ rfl wr.heap.size rfl 39 #[.int .u8 (t.kind : Int), .string x, .string y, .slice A3 t.attrs.length c3', .string z, .int .i64 t.many] (0, 0) _ HS3.out.1 Tryz.underlying39 rfl infoNdS ?_)
        | (at_builtin; refine wpList_append_own_at _ rfl (.tmp 21) (.tmp 23) 22 rfl w.heap.size 39 i0 (.agg #[.int .u8 0, .string ⟨#[]⟩, .string ⟨#[]⟩, .slice none 0 0, .string ⟨#[]⟩, .int .i64 0]) 6 88 Tryz.underlying22 HI.out HZ0.out HZ1.out HZ2.out rfl (by decide) _ L.length _ rfl ((HST.out.below HS3.out.2).below (stpA (Below.refl _ _) _)).1 ⟨w3.heap.size, 0, none⟩ 1 1 [.int .u8 (t.kind : Int), .string x, .string y, .slice A3 t.attrs.length c3', .string z, .int .i64 t.many] rfl rfl (new_at (w3.setCell ⟨wr.heap.size, 3, none⟩ (.slice A3 t.attrs.length c3')) [.int .u8 (t.kind : Int), .string x, .string y, .slice A3 t.attrs.length c3', .string z, .int .i64 t.many] 39 w3.heap.size (World.size_setCell _ _ _)) (nd_ones _ _ _ _ _ _ _ _) (by unfold maxLen; omega) (by omega) (by have := HST.out.2.2.size; have := HS3.out.2.size; simp at this ⊢; omega) ?_; intro v5 w5 hown5 hgr5 _ hlie; obtain ⟨A5, c5', rfl⟩ := own_form2 hown5; have HX5 := Lib.hid (twin_fin HST.out (stpA HS3.out.2 (.cells #[.int .u8 (t.kind : Int), .string x, .string y, .slice A3 t.attrs.length c3', .string z, .int .i64 t.many] 39)) (Nat.le_refl _) HIN.out.space HIN.out.name HIN.out.text HIN.out.kd HIN.out.lo HIN.out.hi (own_belowK (own_setCell HO3.out wr.heap.size 3 (by omega) (.slice A3 t.attrs.length c3')) (stpA (Below.refl _ _) _) (Nat.le_refl _)) hown5 hgr5 hlie); clear hown5 hgr5 hlie)
        | fail)
      go_roundg (gk - 1)
      case rel => exact ⟨_, by rw [List.length_append]; simp; omega, by simp, by rw [List.map_append, List.length_append]; exact HM2.out, HX5.out⟩
      case measure => omega
    · obtain hLn : L.length = n := by omega
      have hall : L.map NB.n = v := by rw [hmap, hLn, ← HN.out]; exact List.take_length
      have HO : Hid (TwinTo v w (.returned (.slice Ao L.length co)) wr) := Lib.hid (by
        have h1 := hst.read (Nat.le_refl _)
        rw [hall] at h1
        exact ⟨Ao, co, by rw [hLn, HN.out], h1.1, hst.2.2⟩)
      subst hLn
      clear hst hmap hall
      go_wp2_with fail
      go_ret
      exact HO.out
end Hx
end Go.Proofs.YteobcohjikjalaaGreatDoor
set_option linter.unusedSimpArgs false
namespace Go.Proofs.YteobcohjikjalaaGreatDoor
open Go.RowKit
namespace Hx
open Lx Tr Tx Nmb Es
set_option linter.unusedVariables false
def withM (n : Nd) (m : Int) : Nd := { n with many := m }
theorem NdIn.many {n : Nd} {x y z : ByteArray} {A : Option Addr} {c : Nat} {w : World} {S : Nat → Prop} (h : NdIn n x y z A c w S) (m : Int) (h1 : -9223372036854775808 ≤ m) (h2 : m ≤ 9223372036854775807) : NdIn (withM n m) x y z A c w S :=
  ⟨h.space, h.name, h.text, h.attrs, h.le, h.cm, h.nil, h.kd, h1, h2⟩
theorem SmallN.many {n : Nd} (h : SmallN n) (m : Int) : SmallN (withM n m) := ⟨h.space, h.name, h.text, h.attrs, h.each⟩
theorem NdSt.one {lo : Nat} {w W : World} {n : Nd} {x y z : ByteArray} {A : Option Addr} {c : Nat} (hb : Below w.heap.size w W) (h : NdIn n x y z A c W (Far lo w W none)) (hA : ∀ k, W.heap.size ≤ k → ¬ Far lo w W none k) :
    NdSt lo w [⟨n, x, y, z, A, c⟩] (.slice (some ⟨W.heap.size, 0, none⟩) 1 1) (W.alloc (.cells #[.int .u8 (n.kind : Int), .string x, .string y, .slice A n.attrs.length c, .string z, .int .i64 n.many] 39)) := by
  have hb2 : Below W.heap.size W (W.alloc (.cells #[.int .u8 (n.kind : Int), .string x, .string y, .slice A n.attrs.length c, .string z, .int .i64 n.many] 39)) := stpA (Below.refl _ _) _
  refine ⟨⟨by simp [nbCells, ndCells], .inr ⟨W.heap.size, 1, #[.int .u8 (n.kind : Int), .string x, .string y, .slice A n.attrs.length c, .string z, .int .i64 n.many], rfl, hb.size, heap_alloc_new _ _, Nat.le_refl _, by decide, by simp, by simp [nbCells, ndCells]⟩⟩, fun b hm => ?_, stp hb hb2⟩
  rw [List.mem_singleton] at hm
  subst hm
  refine h.keep (fun k hk => ⟨hk.1, Nat.lt_of_lt_of_le hk.2.1 hb2.size, fun e => ?_, fun hk2 o => (hb2.frozen (p := ⟨k, o, none⟩) hk.2.1).trans (hk.2.2.2 hk2 o)⟩) fun k o hk => hb2.cell (p := ⟨k, o, none⟩) hk.2.1
  have e2 : some k = some W.heap.size := e
  injection e2 with e2
  have := hk.2.1
  omega
end Hx
end Go.Proofs.YteobcohjikjalaaGreatDoor
