/-
  Texts of one seat, put together: TrhI, SpaX, SpaZ, SpzL.
-/
import Derived.Test.YtlhjcdkkmloamaaGreatDoorSp36
import Derived.Test.YtlhjcdkkmloamaaGreatDoorSp00
set_option linter.unusedSimpArgs false
namespace Go.Proofs.YtlhjcdkkmloamaaGreatDoor
open Go.RowKit
namespace Hx
open Lx Tr Tx Nmb Es
set_option maxRecDepth 100000
set_option maxHeartbeats 16000000
set_option linter.unusedVariables false
theorem boxes_two (w : World) (cs0 cs1 : Array Value) (T : TypeId) : ∀ w1, Below ((w.alloc (.cells cs0 T)).alloc (.cells cs1 T)).heap.size ((w.alloc (.cells cs0 T)).alloc (.cells cs1 T)) w1 →
    w1.heap[w.heap.size]? = some (.cells cs0 T (0, 0)) ∧ w1.heap[w.heap.size + 1]? = some (.cells cs1 T (0, 0)) ∧ Below w.heap.size w w1 := by
  intro w1 hb
  have h0 := heap_alloc_new w (.cells cs0 T)
  have h1 := heap_alloc_new (w.alloc (.cells cs0 T)) (.cells cs1 T)
  rw [World.size_alloc] at h1
  exact ⟨kept_heap (kept_heap h0 (stpA (Below.refl _ _) _)) hb, kept_heap h1 hb, stp (stpA (stpA (Below.refl w.heap.size w) _) _) hb⟩
theorem ndsame10 (nd nd' : Nd) (x0 y0 z0 x1 y1 z1 : ByteArray) (A0 A1 : Option Addr) (c0 c1 : Nat) (w : World) (h0 : NdAt nd x0 y0 z0 A0 c0 w) (h1 : NdAt nd' x1 y1 z1 A1 c1 w) (ha0 : nd.attrs.length ≤ 1000000) (ha1 : nd'.attrs.length ≤ 1000000) (q : Bool) (h : decide (nd = nd') = q) :
    Calls Tryz.prog 21 #[NdV nd x0 y0 z0 A0 c0, NdV nd' x1 y1 z1 A1 c1] w fun e w' => e = .returned (.bool q) ∧ Below w.heap.size w w' := by
  unfold NdV
  obtain ⟨qa, hqa⟩ : ∃ qa, decide (nd.attrs = nd'.attrs) = qa := ⟨_, rfl⟩
  have hrA : ∀ W, Below w.heap.size w W → RdB AtS W A0 nd.attrs ∧ RdB AtS W A1 nd'.attrs := fun W hW => ⟨(h0.on hW).rd, (h1.on hW).rd⟩
  have hbx := boxes_two w #[.int .u8 (nd.kind : Int), .string x0, .string y0, .slice A0 nd.attrs.length c0, .string z0, .int .i64 nd.many] #[.int .u8 (nd'.kind : Int), .string x1, .string y1, .slice A1 nd'.attrs.length c1, .string z1, .int .i64 nd'.many] 32
  have hr2 := hrA _ (stpA (stpA (Below.refl w.heap.size w) (.cells #[.int .u8 (nd.kind : Int), .string x0, .string y0, .slice A0 nd.attrs.length c0, .string z0, .int .i64 nd.many] 32)) (.cells #[.int .u8 (nd'.kind : Int), .string x1, .string y1, .slice A1 nd'.attrs.length c1, .string z1, .int .i64 nd'.many] 32))
  have hs := ats10 A0 A1 _ c0 _ c1 nd.attrs nd'.attrs _ hr2.1 rfl hr2.2 rfl ha0 ha1 qa hqa
  clear hr2
  obtain ⟨kd0, hk0⟩ : ∃ kd0, nd.kind = kd0 := ⟨_, rfl⟩
  obtain ⟨kd1, hk1⟩ : ∃ kd1, nd'.kind = kd1 := ⟨_, rfl⟩
  obtain ⟨n0, hn0⟩ : ∃ n0, nd.attrs.length = n0 := ⟨_, rfl⟩
  obtain ⟨n1, hn1⟩ : ∃ n1, nd'.attrs.length = n1 := ⟨_, rfl⟩
  obtain ⟨m0, hm0⟩ : ∃ m0, nd.many = m0 := ⟨_, rfl⟩
  obtain ⟨m1, hm1⟩ : ∃ m1, nd'.many = m1 := ⟨_, rfl⟩
  have e1 := h0.space; have e2 := h0.name; have e3 := h0.text
  have g1 := h1.space; have g2 := h1.name; have g3 := h1.text
  rw [hk0, hk1, hn0, hn1, hm0, hm1] at hs hbx
  rw [hk0, hk1, hn0, hn1, hm0, hm1]
  have HS := Lib.hid hs
  have HBX := Lib.hid hbx
  have hall : nd = nd' ↔ qa = true ∧ kd0 = kd1 ∧ x0 = x1 ∧ y0 = y1 ∧ z0 = z1 ∧ m0 = m1 := by
    rw [← hqa, decide_eq_true_eq]
    constructor
    · intro e
      rw [e] at hk0 hm0 e1 e2 e3
      exact ⟨by rw [e], hk0.symm.trans hk1, ba_x (e1.trans g1.symm), ba_x (e2.trans g2.symm), ba_x (e3.trans g3.symm), hm0.symm.trans hm1⟩
    · rintro ⟨k0, k1, k2, k3, k4, k5⟩
      exact nd_eq (hk0.trans (k1.trans hk1.symm)) (e1.symm.trans ((congrArg (fun b : ByteArray => b.data.toList) k2).trans g1)) (e2.symm.trans ((congrArg (fun b : ByteArray => b.data.toList) k3).trans g2)) k0 (e3.symm.trans ((congrArg (fun b : ByteArray => b.data.toList) k4).trans g3)) (hm0.trans (k5.trans hm1.symm))
  have hq : q = decide (qa = true ∧ kd0 = kd1 ∧ x0 = x1 ∧ y0 = y1 ∧ z0 = z1 ∧ m0 = m1) := by rw [← h, decide_eq_decide]; exact hall
  clear hall hs hbx hrA h h0 h1 ha0 ha1 hqa hk0 hk1 hn0 hn1 hm0 hm1 e1 e2 e3 g1 g2 g3
  by_cases p0 : qa = true
  case neg =>

    obtain rfl : q = false := by rw [hq]; exact decide_eq_false fun e => p0 e.1
    clear hq
    obtain rfl : qa = false := by simpa using p0
    go_enter Tryz.func21, Tryz.ntmps21
    go_wp2_with (first
      | (go_at_call 22; (with_reducible refine (HS.out).mono ?_); rintro e1 w1 ⟨rfl, hb1⟩; have hbx := HBX.out w1 hb1; have HB1 : Hid (Below w.heap.size w w1) := Lib.hid hbx.2.2; have c0 := cellV w1 _ 0 _ _ _ hbx.1; have c1 := cellV w1 _ 1 _ _ _ hbx.1; have c2 := cellV w1 _ 2 _ _ _ hbx.1; have c4 := cellV w1 _ 4 _ _ _ hbx.1; have c5 := cellV w1 _ 5 _ _ _ hbx.1; have d0 := cellV w1 _ 0 _ _ _ hbx.2.1; have d1 := cellV w1 _ 1 _ _ _ hbx.2.1; have d2 := cellV w1 _ 2 _ _ _ hbx.2.1; have d4 := cellV w1 _ 4 _ _ _ hbx.2.1; have d5 := cellV w1 _ 5 _ _ _ hbx.2.1; clear hbx hb1)
      | fail)
    go_ret
    exact ⟨rfl, HB1.out⟩
  subst p0
  by_cases p1 : kd0 = kd1
  case neg =>

    obtain rfl : q = false := by rw [hq]; exact decide_eq_false fun e => p1 e.2.1
    clear hq
    have f1 : ((kd0 : Int) == (kd1 : Int)) = false := by simp; omega
    have f2 : ¬ (kd0 : Int) = (kd1 : Int) := by omega
    have f3 : (kd0 == kd1) = false := by simpa using p1
    go_enter Tryz.func21, Tryz.ntmps21
    go_wp2_with (first
      | (go_at_call 22; (with_reducible refine (HS.out).mono ?_); rintro e1 w1 ⟨rfl, hb1⟩; have hbx := HBX.out w1 hb1; have HB1 : Hid (Below w.heap.size w w1) := Lib.hid hbx.2.2; have c0 := cellV w1 _ 0 _ _ _ hbx.1; have c1 := cellV w1 _ 1 _ _ _ hbx.1; have c2 := cellV w1 _ 2 _ _ _ hbx.1; have c4 := cellV w1 _ 4 _ _ _ hbx.1; have c5 := cellV w1 _ 5 _ _ _ hbx.1; have d0 := cellV w1 _ 0 _ _ _ hbx.2.1; have d1 := cellV w1 _ 1 _ _ _ hbx.2.1; have d2 := cellV w1 _ 2 _ _ _ hbx.2.1; have d4 := cellV w1 _ 4 _ _ _ hbx.2.1; have d5 := cellV w1 _ 5 _ _ _ hbx.2.1; clear hbx hb1)
      | fail)
    go_ret
    exact ⟨rfl, HB1.out⟩
  subst p1
  by_cases p2 : x0 = x1
  case neg =>

    obtain rfl : q = false := by rw [hq]; exact decide_eq_false fun e => p2 e.2.2.1
    clear hq
    have f1 : (x0.toList == x1.toList) = false := by rw [seq_l, decide_eq_false_iff_not]; exact fun e => p2 (ba_x e)
    have f2 : ¬ x0.toList = x1.toList := by simpa using f1
    go_enter Tryz.func21, Tryz.ntmps21
    go_wp2_with (first
      | (go_at_call 22; (with_reducible refine (HS.out).mono ?_); rintro e1 w1 ⟨rfl, hb1⟩; have hbx := HBX.out w1 hb1; have HB1 : Hid (Below w.heap.size w w1) := Lib.hid hbx.2.2; have c0 := cellV w1 _ 0 _ _ _ hbx.1; have c1 := cellV w1 _ 1 _ _ _ hbx.1; have c2 := cellV w1 _ 2 _ _ _ hbx.1; have c4 := cellV w1 _ 4 _ _ _ hbx.1; have c5 := cellV w1 _ 5 _ _ _ hbx.1; have d0 := cellV w1 _ 0 _ _ _ hbx.2.1; have d1 := cellV w1 _ 1 _ _ _ hbx.2.1; have d2 := cellV w1 _ 2 _ _ _ hbx.2.1; have d4 := cellV w1 _ 4 _ _ _ hbx.2.1; have d5 := cellV w1 _ 5 _ _ _ hbx.2.1; clear hbx hb1)
      | fail)
    go_ret
    exact ⟨rfl, HB1.out⟩
  subst p2
  by_cases p3 : y0 = y1
  case neg =>

    obtain rfl : q = false := by rw [hq]; exact decide_eq_false fun e => p3 e.2.2.2.1
    clear hq
    have f1 : (y0.toList == y1.toList) = false := by rw [seq_l, decide_eq_false_iff_not]; exact fun e => p3 (ba_x e)
    have f2 : ¬ y0.toList = y1.toList := by simpa using f1
    go_enter Tryz.func21, Tryz.ntmps21
    go_wp2_with (first
      | (go_at_call 22; (with_reducible refine (HS.out).mono ?_); rintro e1 w1 ⟨rfl, hb1⟩; have hbx := HBX.out w1 hb1; have HB1 : Hid (Below w.heap.size w w1) := Lib.hid hbx.2.2; have c0 := cellV w1 _ 0 _ _ _ hbx.1; have c1 := cellV w1 _ 1 _ _ _ hbx.1; have c2 := cellV w1 _ 2 _ _ _ hbx.1; have c4 := cellV w1 _ 4 _ _ _ hbx.1; have c5 := cellV w1 _ 5 _ _ _ hbx.1; have d0 := cellV w1 _ 0 _ _ _ hbx.2.1; have d1 := cellV w1 _ 1 _ _ _ hbx.2.1; have d2 := cellV w1 _ 2 _ _ _ hbx.2.1; have d4 := cellV w1 _ 4 _ _ _ hbx.2.1; have d5 := cellV w1 _ 5 _ _ _ hbx.2.1; clear hbx hb1)
      | fail)
    go_ret
    exact ⟨rfl, HB1.out⟩
  subst p3
  by_cases p4 : z0 = z1
  case neg =>

    obtain rfl : q = false := by rw [hq]; exact decide_eq_false fun e => p4 e.2.2.2.2.1
    clear hq
    have f1 : (z0.toList == z1.toList) = false := by rw [seq_l, decide_eq_false_iff_not]; exact fun e => p4 (ba_x e)
    have f2 : ¬ z0.toList = z1.toList := by simpa using f1
    go_enter Tryz.func21, Tryz.ntmps21
    go_wp2_with (first
      | (go_at_call 22; (with_reducible refine (HS.out).mono ?_); rintro e1 w1 ⟨rfl, hb1⟩; have hbx := HBX.out w1 hb1; have HB1 : Hid (Below w.heap.size w w1) := Lib.hid hbx.2.2; have c0 := cellV w1 _ 0 _ _ _ hbx.1; have c1 := cellV w1 _ 1 _ _ _ hbx.1; have c2 := cellV w1 _ 2 _ _ _ hbx.1; have c4 := cellV w1 _ 4 _ _ _ hbx.1; have c5 := cellV w1 _ 5 _ _ _ hbx.1; have d0 := cellV w1 _ 0 _ _ _ hbx.2.1; have d1 := cellV w1 _ 1 _ _ _ hbx.2.1; have d2 := cellV w1 _ 2 _ _ _ hbx.2.1; have d4 := cellV w1 _ 4 _ _ _ hbx.2.1; have d5 := cellV w1 _ 5 _ _ _ hbx.2.1; clear hbx hb1)
      | fail)
    go_ret
    exact ⟨rfl, HB1.out⟩
  subst p4
  by_cases p5 : m0 = m1
  case neg =>

    obtain rfl : q = false := by rw [hq]; exact decide_eq_false fun e => p5 e.2.2.2.2.2
    clear hq
    have f1 : (m0 == m1) = false := by simpa using p5
    go_enter Tryz.func21, Tryz.ntmps21
    go_wp2_with (first
      | (go_at_call 22; (with_reducible refine (HS.out).mono ?_); rintro e1 w1 ⟨rfl, hb1⟩; have hbx := HBX.out w1 hb1; have HB1 : Hid (Below w.heap.size w w1) := Lib.hid hbx.2.2; have c0 := cellV w1 _ 0 _ _ _ hbx.1; have c1 := cellV w1 _ 1 _ _ _ hbx.1; have c2 := cellV w1 _ 2 _ _ _ hbx.1; have c4 := cellV w1 _ 4 _ _ _ hbx.1; have c5 := cellV w1 _ 5 _ _ _ hbx.1; have d0 := cellV w1 _ 0 _ _ _ hbx.2.1; have d1 := cellV w1 _ 1 _ _ _ hbx.2.1; have d2 := cellV w1 _ 2 _ _ _ hbx.2.1; have d4 := cellV w1 _ 4 _ _ _ hbx.2.1; have d5 := cellV w1 _ 5 _ _ _ hbx.2.1; clear hbx hb1)
      | fail)
    go_ret
    exact ⟨rfl, HB1.out⟩
  subst p5
  obtain rfl : q = true := by rw [hq]; exact decide_eq_true ⟨rfl, rfl, rfl, rfl, rfl, rfl⟩
  clear hq
  go_enter Tryz.func21, Tryz.ntmps21
  go_wp2_with (first
    | (go_at_call 22; (with_reducible refine (HS.out).mono ?_); rintro e1 w1 ⟨rfl, hb1⟩; have hbx := HBX.out w1 hb1; have HB1 : Hid (Below w.heap.size w w1) := Lib.hid hbx.2.2; have c0 := cellV w1 _ 0 _ _ _ hbx.1; have c1 := cellV w1 _ 1 _ _ _ hbx.1; have c2 := cellV w1 _ 2 _ _ _ hbx.1; have c4 := cellV w1 _ 4 _ _ _ hbx.1; have c5 := cellV w1 _ 5 _ _ _ hbx.1; have d0 := cellV w1 _ 0 _ _ _ hbx.2.1; have d1 := cellV w1 _ 1 _ _ _ hbx.2.1; have d2 := cellV w1 _ 2 _ _ _ hbx.2.1; have d4 := cellV w1 _ 4 _ _ _ hbx.2.1; have d5 := cellV w1 _ 5 _ _ _ hbx.2.1; clear hbx hb1)
    | fail)
  go_ret
  exact ⟨rfl, HB1.out⟩
theorem nds10 (A B : Option Addr) (n cp n2 cp2 : Nat) (l l2 : List Nd) (w : World) (hr : RdB NdS w A l) (hn : l.length = n) (hr2 : RdB NdS w B l2) (hn2 : l2.length = n2) (hm : n ≤ 1000000) (hm2 : n2 ≤ 1000000)
    (hat : ∀ t ∈ l, t.attrs.length ≤ 1000000) (hat2 : ∀ t ∈ l2, t.attrs.length ≤ 1000000) (q : Bool) (h : decide (l = l2) = q) :
    Calls Tryz.prog 20 #[.slice A n cp, .slice B n2 cp2, .func (.func 21) #[] #[]] w fun e w' => e = .returned (.bool q) ∧ Below w.heap.size w w' := by
  have HR := Lib.hid hr
  have HN := Lib.hid hn
  have HR2 := Lib.hid hr2
  have HN2 := Lib.hid hn2
  have HM := Lib.hid hm
  have HH := Lib.hid h
  have HAT := Lib.hid hat
  have HAT2 := Lib.hid hat2
  clear hr hn hr2 hn2 h hat hat2
  by_cases hne : n = n2
  · subst hne
    have f0 : ((n : Int) != (n : Int)) = false := by simp
    go_enter Tryz.func20, Tryz.ntmps20
    go_wp2_with fail
    go_loopg [7, 15] n (fun gg x7 i wr => ∃ k : Nat, k + gg = n ∧ i = .int .i64 k ∧ l.take k = l2.take k ∧ Below w.heap.size w wr)
    case atStart => exact ⟨0, by omega, rfl, rfl, Below.refl _ _⟩
    case round =>
      obtain ⟨k, hkg, rfl, hno, hbw⟩ := hrel
      have hm := HM.out
      have HBW := Lib.hid hbw
      by_cases hlt : k < n
      · have hk1 : k < l.length := by rw [HN.out]; exact hlt
        have hk2 : k < l2.length := by rw [HN2.out]; exact hlt
        obtain ⟨b0, off, x, y, t, A1, p1, rfl, hbB, hin, c0, c1, c2, c3, c4, c5⟩ := nd_at (HR.out.on hbw) hk1
        obtain ⟨b1, of1, x1, y1, t1, A2, p2, rfl, hbB1, hin1, d0, d1, d2, d3, d4, d5⟩ := nd_at (HR2.out.on hbw) hk2
        have ha0 := HAT.out _ (List.getElem_mem hk1)
        have ha1 := HAT2.out _ (List.getElem_mem hk2)
        obtain ⟨nd0, hnd0⟩ : ∃ nd0, l[k]'hk1 = nd0 := ⟨_, rfl⟩
        obtain ⟨nd1, hnd1⟩ : ∃ nd1, l2[k]'hk2 = nd1 := ⟨_, rfl⟩
        rw [hnd0] at hin c0 c3 c5 ha0
        rw [hnd1] at hin1 d0 d3 d5 ha1
        have bk : (0 : Int) ≤ (k : Int) ∧ (k : Int) < (n : Int) := by omega
        have hC : ∀ qq W, Below wr.heap.size wr W → decide (nd0 = nd1) = qq → Calls Tryz.prog 21 #[NdV nd0 x y t A1 p1, NdV nd1 x1 y1 t1 A2 p2] W fun e w' => e = .returned (.bool qq) ∧ Below W.heap.size W w' := fun qq W hW hq => ndsame10 nd0 nd1 x y t x1 y1 t1 A1 A2 p1 p2 W (NdAt.on hin hW) (NdAt.on hin1 hW) ha0 ha1 qq hq
        unfold NdV at hC
        obtain ⟨kd0, hkd0⟩ : ∃ kd0, nd0.kind = kd0 := ⟨_, rfl⟩
        obtain ⟨kd1, hkd1⟩ : ∃ kd1, nd1.kind = kd1 := ⟨_, rfl⟩
        obtain ⟨n1, hn1⟩ : ∃ n1, nd0.attrs.length = n1 := ⟨_, rfl⟩
        obtain ⟨n3, hn3⟩ : ∃ n3, nd1.attrs.length = n3 := ⟨_, rfl⟩
        obtain ⟨m0, hm0⟩ : ∃ m0, nd0.many = m0 := ⟨_, rfl⟩
        obtain ⟨m1, hm1⟩ : ∃ m1, nd1.many = m1 := ⟨_, rfl⟩
        rw [hkd0, hkd1, hn1, hn3, hm0, hm1] at hC
        rw [hkd0] at c0
        rw [hn1] at c3
        rw [hm0] at c5
        rw [hkd1] at d0
        rw [hn3] at d3
        rw [hm1] at d5
        have HK : Hid (∀ W, Below wr.heap.size wr W → W.cell? ⟨b0, off + k * 6, none⟩ = some (.int .u8 (kd0 : Int)) ∧ W.cell? ⟨b0, off + k * 6 + 1, none⟩ = some (.string x) ∧ W.cell? ⟨b0, off + k * 6 + 2, none⟩ = some (.string y) ∧ W.cell? ⟨b0, off + k * 6 + 3, none⟩ = some (.slice A1 n1 p1) ∧ W.cell? ⟨b0, off + k * 6 + 4, none⟩ = some (.string t) ∧ W.cell? ⟨b0, off + k * 6 + 5, none⟩ = some (.int .i64 m0) ∧ W.cell? ⟨b1, of1 + k * 6, none⟩ = some (.int .u8 (kd1 : Int)) ∧ W.cell? ⟨b1, of1 + k * 6 + 1, none⟩ = some (.string x1) ∧ W.cell? ⟨b1, of1 + k * 6 + 2, none⟩ = some (.string y1) ∧ W.cell? ⟨b1, of1 + k * 6 + 3, none⟩ = some (.slice A2 n3 p2) ∧ W.cell? ⟨b1, of1 + k * 6 + 4, none⟩ = some (.string t1) ∧ W.cell? ⟨b1, of1 + k * 6 + 5, none⟩ = some (.int .i64 m1)) := Lib.hid fun W hW =>
          ⟨(hW.cell (p := ⟨b0, _, none⟩) hbB).trans c0, (hW.cell (p := ⟨b0, _, none⟩) hbB).trans c1, (hW.cell (p := ⟨b0, _, none⟩) hbB).trans c2, (hW.cell (p := ⟨b0, _, none⟩) hbB).trans c3, (hW.cell (p := ⟨b0, _, none⟩) hbB).trans c4, (hW.cell (p := ⟨b0, _, none⟩) hbB).trans c5, (hW.cell (p := ⟨b1, _, none⟩) hbB1).trans d0, (hW.cell (p := ⟨b1, _, none⟩) hbB1).trans d1, (hW.cell (p := ⟨b1, _, none⟩) hbB1).trans d2, (hW.cell (p := ⟨b1, _, none⟩) hbB1).trans d3, (hW.cell (p := ⟨b1, _, none⟩) hbB1).trans d4, (hW.cell (p := ⟨b1, _, none⟩) hbB1).trans d5⟩
        by_cases hxy : nd0 = nd1
        · have HC2 : Hid _ := Lib.hid fun W hW => hC true W hW (decide_eq_true hxy)
          have HT : Hid (l.take (k + 1) = l2.take (k + 1)) := Lib.hid (take_step hk1 hk2 hno (by rw [hnd0, hnd1, hxy]))
          clear hC hno hxy hin hin1 ha0 ha1 hnd0 hnd1 hkd0 hkd1 hn1 hn3 hm0 hm1 hbw hbB hbB1
          go_wp2_with fail
          clear c0 c1 c2 c3 c4 c5 d0 d1 d2 d3 d4 d5
          go_region_held3 (fun W => W.cell? ⟨b0, off + k * 6, none⟩ = some (.int .u8 (kd0 : Int)) ∧ W.cell? ⟨b0, off + k * 6 + 1, none⟩ = some (.string x) ∧ W.cell? ⟨b0, off + k * 6 + 2, none⟩ = some (.string y) ∧ W.cell? ⟨b0, off + k * 6 + 3, none⟩ = some (.slice A1 n1 p1) ∧ W.cell? ⟨b0, off + k * 6 + 4, none⟩ = some (.string t) ∧ W.cell? ⟨b0, off + k * 6 + 5, none⟩ = some (.int .i64 m0) ∧ W.cell? ⟨b1, of1 + k * 6, none⟩ = some (.int .u8 (kd1 : Int)) ∧ W.cell? ⟨b1, of1 + k * 6 + 1, none⟩ = some (.string x1) ∧ W.cell? ⟨b1, of1 + k * 6 + 2, none⟩ = some (.string y1) ∧ W.cell? ⟨b1, of1 + k * 6 + 3, none⟩ = some (.slice A2 n3 p2) ∧ W.cell? ⟨b1, of1 + k * 6 + 4, none⟩ = some (.string t1) ∧ W.cell? ⟨b1, of1 + k * 6 + 5, none⟩ = some (.int .i64 m1))
            (first | exact HK.out _ (Below.refl _ _).drew | exact HK.out _ (stp (Below.refl _ _).drew hb1))
            ((go_at_call 21; (with_reducible refine (HC2.out _ (Below.refl _ _).drew).mono ?_); rintro e1 w1 ⟨rfl, hb1⟩))
          go_wp2_with fail
          go_roundg (gk - 1)
          case measure => omega
          case rel => exact ⟨k + 1, by omega, by go_num, HT.out, stp HBW.out.drew hb1⟩
        · have HC2 : Hid _ := Lib.hid fun W hW => hC false W hW (decide_eq_false hxy)
          obtain rfl : false = q := by
            rw [← HH.out, eq_comm, decide_eq_false_iff_not]
            refine ne_at hk1 hk2 fun e => hxy ?_
            rw [← hnd0, ← hnd1, e]
          clear hC hno hxy hin hin1 ha0 ha1 hnd0 hnd1 hkd0 hkd1 hn1 hn3 hm0 hm1 hbw hbB hbB1
          go_wp2_with fail
          clear c0 c1 c2 c3 c4 c5 d0 d1 d2 d3 d4 d5
          go_region_held3 (fun W => W.cell? ⟨b0, off + k * 6, none⟩ = some (.int .u8 (kd0 : Int)) ∧ W.cell? ⟨b0, off + k * 6 + 1, none⟩ = some (.string x) ∧ W.cell? ⟨b0, off + k * 6 + 2, none⟩ = some (.string y) ∧ W.cell? ⟨b0, off + k * 6 + 3, none⟩ = some (.slice A1 n1 p1) ∧ W.cell? ⟨b0, off + k * 6 + 4, none⟩ = some (.string t) ∧ W.cell? ⟨b0, off + k * 6 + 5, none⟩ = some (.int .i64 m0) ∧ W.cell? ⟨b1, of1 + k * 6, none⟩ = some (.int .u8 (kd1 : Int)) ∧ W.cell? ⟨b1, of1 + k * 6 + 1, none⟩ = some (.string x1) ∧ W.cell? ⟨b1, of1 + k * 6 + 2, none⟩ = some (.string y1) ∧ W.cell? ⟨b1, of1 + k * 6 + 3, none⟩ = some (.slice A2 n3 p2) ∧ W.cell? ⟨b1, of1 + k * 6 + 4, none⟩ = some (.string t1) ∧ W.cell? ⟨b1, of1 + k * 6 + 5, none⟩ = some (.int .i64 m1))
            (first | exact HK.out _ (Below.refl _ _).drew | exact HK.out _ (stp (Below.refl _ _).drew hb1))
            ((go_at_call 21; (with_reducible refine (HC2.out _ (Below.refl _ _).drew).mono ?_); rintro e1 w1 ⟨rfl, hb1⟩))
          go_wp2_with fail
          go_ret
          exact ⟨rfl, stp HBW.out.drew hb1⟩
      · obtain rfl : k = n := by omega
        obtain rfl : true = q := by
          rw [← HH.out, eq_comm, decide_eq_true_eq]
          rwa [List.take_of_length_le (by rw [HN.out]; exact Nat.le_refl _), List.take_of_length_le (by rw [HN2.out]; exact Nat.le_refl _)] at hno
        clear hno
        go_wp2_with fail
        go_ret
        exact ⟨rfl, HBW.out⟩
  · have d0 : ((n : Int) != (n2 : Int)) = true := by simp; omega
    have d1 : (n != n2) = true := by simpa using hne
    have d2 : (n == n2) = false := by simpa using hne
    obtain rfl : false = q := by
      rw [← HH.out, eq_comm, decide_eq_false_iff_not]
      rintro rfl
      exact hne (HN.out.symm.trans HN2.out)
    clear hne
    go_enter Tryz.func20, Tryz.ntmps20
    go_wp2_with fail
    go_ret
    exact ⟨rfl, Below.refl _ _⟩
theorem same10 (A B : Option Addr) (n cp n2 cp2 : Nat) (l l2 : List Nd) (w : World) (hr : RdB NdS w A l) (hn : l.length = n) (hr2 : RdB NdS w B l2) (hn2 : l2.length = n2) (hm : n ≤ 1000000) (hm2 : n2 ≤ 1000000)
    (hat : ∀ t ∈ l, t.attrs.length ≤ 1000000) (hat2 : ∀ t ∈ l2, t.attrs.length ≤ 1000000) (q : Bool) (h : decide (l = l2) = q) :
    Calls Tryz.prog 8 #[.slice A n cp, .slice B n2 cp2] w fun e w' => e = .returned (.bool q) ∧ Below w.heap.size w w' := by
  have HC := Lib.hid (nds10 A B n cp n2 cp2 l l2 w hr hn hr2 hn2 hm hm2 hat hat2 q h)
  clear hr hn hr2 hn2 hm hm2 hat hat2 h
  go_enter Tryz.func8, Tryz.ntmps8
  go_wp2_with (first
    | (go_at_call 20; (with_reducible refine (HC.out).mono ?_); rintro e1 w1 ⟨rfl, hb1⟩)
    | fail)
  go_ret
  exact ⟨rfl, hb1⟩
end Hx
end Go.Proofs.YtlhjcdkkmloamaaGreatDoor
namespace Go.Proofs.YtlhjcdkkmloamaaGreatDoor
open Go.RowKit
namespace Hx
open Lx Tr Tx Nmb Es Ns
set_option linter.unusedVariables false
end Hx
end Go.Proofs.YtlhjcdkkmloamaaGreatDoor
namespace Go.Proofs.YtlhjcdkkmloamaaGreatDoor
open Go.RowKit
namespace Hx
open Lx Tr Tx Nmb Es Ns
set_option maxRecDepth 100000
set_option maxHeartbeats 16000000
set_option linter.unusedVariables false
def mdA0 (p s : List UInt8) : List At := [⟨[], xmlns5 ++ 58 :: p, s⟩]
def mdA1 (p a b : List UInt8) : List At := [⟨[], p ++ 58 :: a, [49]⟩, ⟨[], b, [50]⟩]
def mdN0 (p s a : List UInt8) : Nd := ⟨1, [], p ++ 58 :: a, mdA0 p s, [], 1⟩
def mdN1 (p a b : List UInt8) : Nd := ⟨1, [], p ++ 58 :: b, mdA1 p a b, [], 0⟩
def madeV (p s a b : List UInt8) : List Nd := [mdN0 p s a, mdN1 p a b]
def madeR (s a b : List UInt8) : List Nd × Int := if okT s = true then (if s ≠ ofXml ∧ s ≠ ofXmlns ∧ s ≠ [] then ([⟨1, s, a, [], [], 1⟩, ⟨1, s, b, [⟨s, a, [49]⟩, ⟨[], b, [50]⟩], [], 0⟩], 0) else ([], 110)) else ([], 8)
theorem okT_nil : okT [] = true := by decide
theorem okT_49 : okT [49] = true := by decide
theorem okT_50 : okT [50] = true := by decide
section
variable {p s a b : List UInt8} (hp : nameL p = true) (ha : nameL a = true) (hb : nameL b = true) (hbx : b ≠ xmlns5)
include hp ha hb hbx
omit hbx in
theorem md_ok1 : ndOk (mdN1 p a b) = true := by
  refine ndOk_mk (full_two hp hb) (by decide) (atsOk_iff.2 ⟨fun x hx => ?_, ?_, by simp [mdA1]⟩)
  · simp [mdA1] at hx
    rcases hx with rfl | rfl
    · exact ⟨full_two hp ha, okT_49, okT_nil⟩
    · exact ⟨nameL_full hb, okT_50, okT_nil⟩
  · simp only [mdA1, List.map_cons, List.map_nil, List.nodup_cons, List.mem_singleton, List.not_mem_nil, not_false_eq_true, List.nodup_nil, and_true, key]
    intro e
    injection e with _ e
    exact nameL_58 hb (by rw [← e]; simp)
omit hb hbx in
theorem md_ok0 : ndOk (mdN0 p s a) = okT s := by
  cases h : okT s with
  | true =>
    refine ndOk_mk (full_two hp ha) (by decide) (atsOk_iff.2 ⟨fun x hx => ?_, by simp [mdA0], by simp [mdA0]⟩)
    simp [mdA0] at hx
    rw [hx]
    exact ⟨full_two xmlns_name hp, h, okT_nil⟩
  | false =>
    unfold ndOk mdN0
    rw [if_pos rfl]
    have : atsOk (mdA0 p s) = false := by
      cases h2 : atsOk (mdA0 p s) with
      | false => rfl
      | true =>
        have := ((atsOk_iff.1 h2).1 _ (List.mem_singleton.2 rfl)).2.1
        rw [h] at this
        cases this
    dsimp only
    rw [this, Bool.and_false]
omit hbx in
theorem md_may : mayV (madeV p s a b) = okT s := by
  have h0 := md_ok0 (s := s) hp ha
  have h1 := md_ok1 hp ha hb
  cases h : okT s with
  | true =>
    rw [h] at h0
    refine mayV_iff.2 ⟨by show 2 ≤ 512; decide, ⟨_, _, rfl, rfl⟩, ?_⟩
    unfold madeV
    rw [restD, if_pos ⟨h0, by show (0 : Int) ≤ 1; decide⟩]
    show (kidsD (restD 11) 1 false [mdN1 p a b]).map (·.2) = some []
    rw [kidsD, if_neg (by simp), restD, if_pos ⟨h1, by show (0 : Int) ≤ 0; decide⟩]
    rfl
  | false =>
    rw [h] at h0
    cases hm : mayV (madeV p s a b) with
    | false => rfl
    | true =>
      have := may_ndOk hm (mdN0 p s a) (by simp [madeV])
      rw [h0] at this
      cases this
theorem md_res (h3 : p ≠ xml3) (h5 : p ≠ xmlns5) : resolveR (madeV p s a b) = madeR s a b := by
  have hraw : rawV (madeV p s a b) = true := by simp [madeV, rawV, rawN, mdN0, mdN1, mdA0, mdA1]
  have hd0 : decl (xmlns5 ++ 58 :: p) = some p := decl_num p
  have hd1 : decl (p ++ 58 :: a) = none := decl_other hp h5
  have hd2 : decl b = none := by
    unfold decl
    rw [nameL_cut hb]
    exact if_neg hbx
  have hpn : p ≠ [] := fun e => by rw [e] at hp; cases hp
  have hl0 : lookE [mdA0 p s] p = (s, true) := by
    rw [lookE]
    unfold mdA0
    rw [declL, if_pos hd0]
  have hl1 : lookE [mdA1 p a b, mdA0 p s] p = (s, true) := by
    rw [lookE]
    have : declL (mdA1 p a b) p = none := by
      unfold mdA1
      rw [declL, hd1, if_neg (by simp), declL, hd2, if_neg (by simp), declL]
    rw [this]
    exact hl0
  have hn : ∀ x, Ns.nameP (p ++ 58 :: x) = (p, x) := fun x => by
    unfold Ns.nameP
    rw [cutC_put (nameL_58 hp)]
  have hat1 : atE [mdA1 p a b, mdA0 p s] ⟨[], p ++ 58 :: a, [49]⟩ = (⟨s, a, [49]⟩, true) := by
    unfold atE
    dsimp only
    rw [cutC_put (nameL_58 hp)]
    dsimp only
    rw [hl1]
  have hat2 : atE [mdA1 p a b, mdA0 p s] ⟨[], b, [50]⟩ = (⟨[], b, [50]⟩, true) := by
    unfold atE
    dsimp only
    rw [nameL_cut hb]
  have ht0 : atsE [mdA0 p s] [] (mdA0 p s) = ([], rightD p s) := by
    rw [show mdA0 p s = [⟨[], xmlns5 ++ 58 :: p, s⟩] from rfl, atsE]
    dsimp only
    rw [hd0]
    dsimp only
    rw [atsE, Bool.and_true]
  have ht1 : atsE [mdA1 p a b, mdA0 p s] [] (mdA1 p a b) = ([⟨s, a, [49]⟩, ⟨[], b, [50]⟩], !(decide (s = []) && decide (a = b))) := by
    rw [show atsE [mdA1 p a b, mdA0 p s] [] (mdA1 p a b) = atsE [mdA1 p a b, mdA0 p s] [] [⟨[], p ++ 58 :: a, [49]⟩, ⟨[], b, [50]⟩] from rfl, atsE]
    dsimp only
    rw [hd1]
    dsimp only
    rw [hat1, List.nil_append, atsE]
    dsimp only
    rw [hd2]
    dsimp only
    rw [hat2, atsE]
    simp [hasK, key, Prod.ext_iff]
  have hr : rightD p s = (decide (s ≠ ofXml ∧ s ≠ ofXmlns ∧ s ≠ [])) := by
    unfold rightD
    rw [if_neg h3, decide_eq_true h5, decide_eq_false hpn]
    by_cases e1 : s = ofXml <;> by_cases e2 : s = ofXmlns <;> by_cases e3 : s = [] <;> simp [e1, e2, e3]
  have hf0 : resF [] (mdN0 p s a) = (⟨1, s, a, [], [], 1⟩, rightD p s) := by
    show ndE [mdA0 p s] (mdN0 p s a) = _
    unfold ndE
    rw [show (mdN0 p s a).name = p ++ 58 :: a from rfl, hn, show (mdN0 p s a).attrs = mdA0 p s from rfl, ht0]
    dsimp only
    rw [hl0, Bool.true_and]
    rfl
  have hf1 : resF [mdA0 p s] (mdN1 p a b) = (⟨1, s, b, [⟨s, a, [49]⟩, ⟨[], b, [50]⟩], [], 0⟩, !(decide (s = []) && decide (a = b))) := by
    show ndE [mdA1 p a b, mdA0 p s] (mdN1 p a b) = _
    unfold ndE
    rw [show (mdN1 p a b).name = p ++ 58 :: b from rfl, hn, show (mdN1 p a b).attrs = mdA1 p a b from rfl, ht1]
    dsimp only
    rw [hl1, Bool.true_and]
    rfl
  have hw : resW (madeV p s a b) = (([⟨1, s, a, [], [], 1⟩, ⟨1, s, b, [⟨s, a, [49]⟩, ⟨[], b, [50]⟩], [], 0⟩], rightD p s && !(decide (s = []) && decide (a = b))), []) := by
    unfold resW madeV
    rw [walkD, if_neg (by show ¬ (1 : Nat) = 2; decide)]
    show _ = _
    rw [show (mdN0 p s a).many.toNat = 1 from rfl, show resDn [] (mdN0 p s a) = [mdA0 p s] from rfl, walkK, walkK, walkD, if_neg (by show ¬ (1 : Nat) = 2; decide)]
    rw [show (mdN1 p a b).many.toNat = 0 from rfl, walkK, hf0, hf1]
    simp
  unfold resolveR madeR
  rw [hw, md_may hp ha hb, hr]
  by_cases h0 : okT s = true
  · rw [if_pos ⟨h0, hraw⟩, if_pos h0]
    by_cases h1 : s ≠ ofXml ∧ s ≠ ofXmlns ∧ s ≠ []
    · rw [if_pos h1, if_pos (by rw [decide_eq_true h1, decide_eq_false h1.2.2]; rfl)]
    · rw [if_neg h1, if_neg (by rw [decide_eq_false h1]; simp)]
  · rw [if_neg (fun h => h0 h.1), if_neg h0]
end
theorem made11 (p s a b : ByteArray) (w : World) (hp : p.size ≤ 100) (ha : a.size ≤ 100) (hb : b.size ≤ 100) :
    Calls Tryz.prog 7 #[.string p, .string s, .string a, .string b] w fun e w' => ∃ A c, e = .returned (.slice A 2 c) ∧ RdB NdS w' A (madeV p.data.toList s.data.toList a.data.toList b.data.toList) ∧ Below w.heap.size w w' := by
  obtain ⟨u1, hu1⟩ : ∃ u1, p ++ (⟨#[58]⟩ : ByteArray) = u1 := ⟨_, rfl⟩
  have hs1 : u1.size ≤ 101 := by rw [← hu1, ByteArray.size_append]; have : (⟨#[58]⟩ : ByteArray).size = 1 := rfl; omega
  obtain ⟨ua, hua⟩ : ∃ ua, u1 ++ a = ua := ⟨_, rfl⟩
  obtain ⟨ub, hub⟩ : ∃ ub, u1 ++ b = ub := ⟨_, rfl⟩
  obtain ⟨ux, hux⟩ : ∃ ux, (⟨#[120, 109, 108, 110, 115, 58]⟩ : ByteArray) ++ p = ux := ⟨_, rfl⟩
  have l1 : ¬ 9223372036854775807 < p.size + 1 := by omega
  have l2 : ¬ 9223372036854775807 < u1.size + a.size := by omega
  have l3 : ¬ 9223372036854775807 < u1.size + b.size := by omega
  have l4 : ¬ 9223372036854775807 < 6 + p.size := by omega
  have e1 : u1.data.toList = p.data.toList ++ [58] := by rw [← hu1, ba_app2]
  have ea : ua.data.toList = p.data.toList ++ 58 :: a.data.toList := by rw [← hua, ba_app2, e1, List.append_assoc]; rfl
  have eb : ub.data.toList = p.data.toList ++ 58 :: b.data.toList := by rw [← hub, ba_app2, e1, List.append_assoc]; rfl
  have ex : ux.data.toList = xmlns5 ++ 58 :: p.data.toList := by rw [← hux, ba_app2]; rfl
  obtain ⟨W1, hW1⟩ : ∃ W1, w.alloc (.cells #[.string ⟨#[]⟩, .string ux, .string s] 34) = W1 := ⟨_, rfl⟩
  obtain ⟨W2, hW2⟩ : ∃ W2, W1.alloc (.cells #[.int .u8 1, .string ⟨#[]⟩, .string ua, .slice (some ⟨w.heap.size, 0, none⟩) 1 1, .string ⟨#[]⟩, .int .i64 1] 32) = W2 := ⟨_, rfl⟩
  obtain ⟨W3, hW3⟩ : ∃ W3, W2.alloc (.cells #[.string ⟨#[]⟩, .string ua, .string ⟨#[49]⟩, .string ⟨#[]⟩, .string b, .string ⟨#[50]⟩] 34) = W3 := ⟨_, rfl⟩
  obtain ⟨W4, hW4⟩ : ∃ W4, W3.alloc (.cells #[.int .u8 1, .string ⟨#[]⟩, .string ua, .slice (some ⟨w.heap.size, 0, none⟩) 1 1, .string ⟨#[]⟩, .int .i64 1, .int .u8 1, .string ⟨#[]⟩, .string ub, .slice (some ⟨W2.heap.size, 0, none⟩) 2 2, .string ⟨#[]⟩, .int .i64 0] 32) = W4 := ⟨_, rfl⟩
  have b1 : Below w.heap.size w W1 := by rw [← hW1]; exact stpA (Below.refl _ _) _
  have b2 : Below W1.heap.size W1 W2 := by rw [← hW2]; exact stpA (Below.refl _ _) _
  have b3 : Below W2.heap.size W2 W3 := by rw [← hW3]; exact stpA (Below.refl _ _) _
  have b4 : Below W3.heap.size W3 W4 := by rw [← hW4]; exact stpA (Below.refl _ _) _
  have g0 : W4.heap[w.heap.size]? = some (.cells #[.string ⟨#[]⟩, .string ux, .string s] 34 (0, 0)) := kept_heap (kept_heap (kept_heap (by rw [← hW1]; exact heap_alloc_new w _) b2) b3) b4
  have g1 : W4.heap[W2.heap.size]? = some (.cells #[.string ⟨#[]⟩, .string ua, .string ⟨#[49]⟩, .string ⟨#[]⟩, .string b, .string ⟨#[50]⟩] 34 (0, 0)) := kept_heap (by rw [← hW3]; exact heap_alloc_new W2 _) b4
  have g2 : W4.heap[W3.heap.size]? = some (.cells #[.int .u8 1, .string ⟨#[]⟩, .string ua, .slice (some ⟨w.heap.size, 0, none⟩) 1 1, .string ⟨#[]⟩, .int .i64 1, .int .u8 1, .string ⟨#[]⟩, .string ub, .slice (some ⟨W2.heap.size, 0, none⟩) 2 2, .string ⟨#[]⟩, .int .i64 0] 32 (0, 0)) := by rw [← hW4]; exact heap_alloc_new W3 _
  have gx : W2.heap[W1.heap.size]? = some (.cells #[.int .u8 1, .string ⟨#[]⟩, .string ua, .slice (some ⟨w.heap.size, 0, none⟩) 1 1, .string ⟨#[]⟩, .int .i64 1] 32 (0, 0)) := by rw [← hW2]; exact heap_alloc_new W1 _
  have r0 := rds_heap (C := AtS) (w := W4) (S := fun k => k < W4.heap.size) abCells abVal (fun _ => rfl) [⟨⟨#[]⟩, ux, s⟩] g0 rfl (fun x _ => ab_R _ _ x) (lt_heap g0)
  have r1 := rds_heap (C := AtS) (w := W4) (S := fun k => k < W4.heap.size) abCells abVal (fun _ => rfl) [⟨⟨#[]⟩, ua, ⟨#[49]⟩⟩, ⟨⟨#[]⟩, b, ⟨#[50]⟩⟩] g1 rfl (fun x _ => ab_R _ _ x) (lt_heap g1)
  rw [show [(⟨⟨#[]⟩, ux, s⟩ : AB)].map abVal = mdA0 p.data.toList s.data.toList by unfold mdA0; rw [← ex]; rfl] at r0
  rw [show [(⟨⟨#[]⟩, ua, ⟨#[49]⟩⟩ : AB), ⟨⟨#[]⟩, b, ⟨#[50]⟩⟩].map abVal = mdA1 p.data.toList a.data.toList b.data.toList by unfold mdA1; rw [← ea]; rfl] at r1
  have HRD : Hid (RdB NdS W4 (some ⟨W3.heap.size, 0, none⟩) (madeV p.data.toList s.data.toList a.data.toList b.data.toList)) := Lib.hid (nds_heap [⟨mdN0 p.data.toList s.data.toList a.data.toList, ⟨#[]⟩, ua, ⟨#[]⟩, some ⟨w.heap.size, 0, none⟩, 1⟩, ⟨mdN1 p.data.toList a.data.toList b.data.toList, ⟨#[]⟩, ub, ⟨#[]⟩, some ⟨W2.heap.size, 0, none⟩, 2⟩] g2 rfl (fun x hx => by
    rcases List.mem_cons.1 hx with rfl | hx
    · exact ⟨rfl, ea, rfl, r0, Nat.le_refl 1, by show 1 ≤ maxLen; unfold maxLen; omega, (fun h => by cases h), by show 1 < 256; decide, by show (-9223372036854775808 : Int) ≤ 1; decide, by show (1 : Int) ≤ 9223372036854775807; decide⟩
    · rw [List.mem_singleton.1 hx]
      exact ⟨rfl, eb, rfl, r1, Nat.le_refl 2, by show 2 ≤ maxLen; unfold maxLen; omega, (fun h => by cases h), by show 1 < 256; decide, by show (-9223372036854775808 : Int) ≤ 0; decide, by show (0 : Int) ≤ 9223372036854775807; decide⟩) (lt_heap g2))
  have HBB : Hid (Below w.heap.size w W4) := Lib.hid (stp (stp (stp b1 b2) b3) b4)
  have HGX := Lib.hid gx
  clear e1 ea eb ex b1 b2 b3 b4 g0 g1 g2 gx r0 r1 hp ha hb hs1
  go_enter Tryz.func7, Tryz.ntmps7
  go_wp2_with (first
    | (refine wpList_store_row rfl _ _ _ rfl W1.heap.size #[.int .u8 1, .string ⟨#[]⟩, .string ua, .slice (some ⟨w.heap.size, 0, none⟩) 1 1, .string ⟨#[]⟩, .int .i64 1] rfl rfl 32 #[.int .u8 0, .string ⟨#[]⟩, .string ⟨#[]⟩, .slice none 0 0, .string ⟨#[]⟩, .int .i64 0] (heap_alloc_new _ _) sizeNd rfl (by simp [Value.oneCell']) ?_; rw [World.setRow_alloc_new, hW2])
    | (refine wpList_load_row rfl _ _ rfl W1.heap.size rfl 32 #[.int .u8 1, .string ⟨#[]⟩, .string ua, .slice (some ⟨w.heap.size, 0, none⟩) 1 1, .string ⟨#[]⟩, .int .i64 1] (0, 0) _ HGX.out Tryz.underlying32 rfl sizeNd ?_)
    | fail)
  go_ret
  exact ⟨some ⟨W3.heap.size, 0, none⟩, 2, rfl, HRD.out, HBB.out⟩
end Hx
end Go.Proofs.YtlhjcdkkmloamaaGreatDoor
namespace Go.Proofs.YtlhjcdkkmloamaaGreatDoor
namespace Hx
open Go
section
variable {P : Program} {ops : Array Oper} {Q : Exit → Act → World → Prop} {a : Act} {w : World}
theorem takeL {o : Oper} {rest : List Oper} (v : Value) (hw : Region.wanted o (yielded ops a.tmps) = true) (hr : (execOp a.eval o).run P w = .ok (.value v) w) (h : wpList P ops Q rest (a.put o.dst v) w) : wpList P ops Q (o :: rest) a w := by
  refine wpList_step fun K hK => ?_
  rw [if_pos hw]
  unfold Oper.wp
  rw [hr]
  exact hK _ _ h
def isUndef : Value → Bool
  | .tuple ⟨[]⟩ => true
  | _ => false
theorem undef_of {v : Value} (h : isUndef v = true) : v = undef := by
  unfold isUndef at h
  split at h
  · rfl
  · cases h
def leftOut (ops : Array Oper) (tmps : Array Value) (o : Oper) : Bool :=
  !Region.wanted o (yielded ops tmps) && (match o.dst with
    | some d => (match tmps[d]? with
      | some v => isUndef v
      | none => true)
    | none => true)
theorem leftOut_step {o : Oper} {rest : List Oper} (h : leftOut ops a.tmps o = true) (H : wpList P ops Q rest a w) : wpList P ops Q (o :: rest) a w := by
  unfold leftOut at h
  rw [Bool.and_eq_true, Bool.not_eq_true'] at h
  refine wpList_skip h.1 ?_
  have e : a.put o.dst undef = a := by
    have h2 := h.2
    unfold Act.put
    split
    · rename_i d hd
      rw [hd] at h2
      dsimp only at h2
      have e2 : a.tmps.setIfInBounds d undef = a.tmps := by
        apply Array.ext_getElem?
        intro i
        rw [Array.getElem?_setIfInBounds]
        by_cases hi : d = i
        · subst hi
          rw [if_pos rfl]
          cases ht : a.tmps[d]? with
          | none =>
            have := Array.getElem?_eq_none_iff.1 ht
            rw [if_neg (by omega)]
          | some v =>
            rw [ht] at h2
            have hlt := (Array.getElem?_eq_some_iff.1 ht).1
            rw [if_pos hlt, undef_of h2]
        · rw [if_neg hi]
      rw [e2]
    · rfl
  rw [e]
  exact H
theorem skipL : ∀ (n : Nat) {l : List Oper}, (l.take n).all (leftOut ops a.tmps) = true → wpList P ops Q (l.drop n) a w → wpList P ops Q l a w
  | 0, l, _, H => by rwa [List.drop_zero] at H
  | n + 1, [], _, H => by rwa [List.drop_nil] at H
  | n + 1, o :: l, h, H => by
    rw [List.take_succ_cons, List.all_cons, Bool.and_eq_true] at h
    rw [List.drop_succ_cons] at H
    exact leftOut_step h.1 (skipL n h.2 H)
theorem takeLA {o : Oper} {l1 l2 : List Oper} (v : Value) (hw : Region.wanted o (yielded ops a.tmps) = true) (hr : (execOp a.eval o).run P w = .ok (.value v) w) (h : wpList P ops Q (l1.append l2) (a.put o.dst v) w) : wpList P ops Q ((o :: l1).append l2) a w := takeL v hw hr h
theorem skipLA {l1 l2 : List Oper} (h : l1.all (leftOut ops a.tmps) = true) (H : wpList P ops Q l2 a w) : wpList P ops Q (l1.append l2) a w := by
  rw [List.append_eq]
  induction l1 with
  | nil => exact H
  | cons o l ih =>
    rw [List.all_cons, Bool.and_eq_true] at h
    exact leftOut_step h.1 (ih h.2)
end
end Hx
end Go.Proofs.YtlhjcdkkmloamaaGreatDoor
