/-
  Texts of one seat, put together: TrhH, TrhI.
-/
import Derived.Test.YtioiifdcgdoanaaGreatDoorBkA
import Derived.Test.YtioiifdcgdoanaaGreatDoorBk28
import Derived.Test.YtioiifdcgdoanaaGreatDoorBk26
namespace Go.Proofs.YtioiifdcgdoanaaGreatDoor
open Go.RowKit
namespace Hx
open Lx Tr Tx Nmb Es
set_option maxRecDepth 100000
set_option maxHeartbeats 16000000
set_option linter.unusedVariables false
def AtV (x y z : ByteArray) : Value := .agg #[.string x, .string y, .string z]
theorem atsame10 (x y z x1 y1 z1 : ByteArray) (w : World) (q : Bool) (h : decide (x = x1 ∧ y = y1 ∧ z = z1) = q) :
    Calls Tryz.prog 65 #[AtV x y z, AtV x1 y1 z1] w fun e w' => e = .returned (.bool q) ∧ Below w.heap.size w w' := by
  unfold AtV
  by_cases hxy : x = x1 ∧ y = y1 ∧ z = z1
  · obtain rfl : true = q := by rw [← h, decide_eq_true hxy]
    obtain ⟨rfl, rfl, rfl⟩ := hxy
    clear h
    go_enter Tryz.func65, Tryz.ntmps65
    go_wp2_with fail
    go_ret
    exact ⟨rfl, stpA (stpA (Below.refl _ _) _) _⟩
  · obtain rfl : false = q := by rw [← h, decide_eq_false hxy]
    have hq : (x.toList == x1.toList) = false ∨ (y.toList == y1.toList) = false ∨ (z.toList == z1.toList) = false := by
      rw [seq_l, seq_l, seq_l]
      simp only [decide_eq_false_iff_not]
      by_cases h5 : x = x1
      · by_cases h6 : y = y1
        · exact .inr (.inr fun e => hxy ⟨h5, h6, ba_x e⟩)
        · exact .inr (.inl fun e => h6 (ba_x e))
      · exact .inl fun e => h5 (ba_x e)
    clear h hxy
    rcases hq with q1 | q1 | q1
    · have q2 : ¬ x.toList = x1.toList := by simpa using q1
      go_enter Tryz.func65, Tryz.ntmps65
      go_wp2_with fail
      go_ret
      exact ⟨rfl, stpA (stpA (Below.refl _ _) _) _⟩
    · have q2 : ¬ y.toList = y1.toList := by simpa using q1
      go_enter Tryz.func65, Tryz.ntmps65
      go_wp2_with fail
      go_ret
      exact ⟨rfl, stpA (stpA (Below.refl _ _) _) _⟩
    · have q2 : ¬ z.toList = z1.toList := by simpa using q1
      go_enter Tryz.func65, Tryz.ntmps65
      go_wp2_with fail
      go_ret
      exact ⟨rfl, stpA (stpA (Below.refl _ _) _) _⟩
theorem ats10 (A A2 : Option Addr) (n cp n2 cp2 : Nat) (l l2 : List At) (w : World) (hr : RdB AtS w A l) (hn : l.length = n) (hr2 : RdB AtS w A2 l2) (hn2 : l2.length = n2) (hm : n ≤ 1000000) (hm2 : n2 ≤ 1000000) (q : Bool) (h : decide (l = l2) = q) :
    Calls Tryz.prog 64 #[.slice A n cp, .slice A2 n2 cp2, .func (.func 65) #[] #[]] w fun e w' => e = .returned (.bool q) ∧ Below w.heap.size w w' := by
  have HR := hI hr
  have HN := hI hn
  have HR2 := hI hr2
  have HN2 := hI hn2
  have HM := hI hm
  have HH := hI h
  clear hr hn hr2 hn2 h
  by_cases hne : n = n2
  · subst hne
    have f0 : ((n : Int) != (n : Int)) = false := by simp
    go_enter Tryz.func64, Tryz.ntmps64
    go_wp2_with fail
    go_loopg [7, 15] n (fun gg x7 i wr => ∃ k : Nat, k + gg = n ∧ i = .int .i64 k ∧ l.take k = l2.take k ∧ Below w.heap.size w wr)
    case atStart => exact ⟨0, by omega, rfl, rfl, Below.refl _ _⟩
    case round =>
      obtain ⟨k, hkg, rfl, hno, hbw⟩ := hrel
      have hm := HM.out
      have HBW := hI hbw
      by_cases hlt : k < n
      · have hk1 : k < l.length := by rw [HN.out]; exact hlt
        have hk2 : k < l2.length := by rw [HN2.out]; exact hlt
        obtain ⟨b0, off, x, y, z, rfl, hbB, hx, hy, hz, c0, c1, c2⟩ := at3 (HR.out.on hbw) hk1
        obtain ⟨b1, of1, x1, y1, z1, rfl, hbB1, hx1, hy1, hz1, d0, d1, d2⟩ := at3 (HR2.out.on hbw) hk2
        have bk : (0 : Int) ≤ (k : Int) ∧ (k : Int) < (n : Int) := by omega
        have HK : Hid (∀ W, Below wr.heap.size wr W → W.cell? ⟨b0, off + k * 3, none⟩ = some (.string x) ∧ W.cell? ⟨b0, off + k * 3 + 1, none⟩ = some (.string y) ∧ W.cell? ⟨b0, off + k * 3 + 2, none⟩ = some (.string z) ∧ W.cell? ⟨b1, of1 + k * 3, none⟩ = some (.string x1) ∧ W.cell? ⟨b1, of1 + k * 3 + 1, none⟩ = some (.string y1) ∧ W.cell? ⟨b1, of1 + k * 3 + 2, none⟩ = some (.string z1)) := hI fun W hW =>
          ⟨(hW.cell (p := ⟨b0, _, none⟩) hbB).trans c0, (hW.cell (p := ⟨b0, _, none⟩) hbB).trans c1, (hW.cell (p := ⟨b0, _, none⟩) hbB).trans c2, (hW.cell (p := ⟨b1, _, none⟩) hbB1).trans d0, (hW.cell (p := ⟨b1, _, none⟩) hbB1).trans d1, (hW.cell (p := ⟨b1, _, none⟩) hbB1).trans d2⟩
        have HC : Hid (∀ qq W, decide (x = x1 ∧ y = y1 ∧ z = z1) = qq → Calls Tryz.prog 65 #[.agg #[.string x, .string y, .string z], .agg #[.string x1, .string y1, .string z1]] W fun e w' => e = .returned (.bool qq) ∧ Below W.heap.size W w') := hI fun qq W hq => atsame10 x y z x1 y1 z1 W qq hq
        clear hbw hbB hbB1
        by_cases hxy : x = x1 ∧ y = y1 ∧ z = z1
        · have HC2 : Hid _ := hI fun W => HC.out true W (decide_eq_true hxy)
          have HT : Hid (l.take (k + 1) = l2.take (k + 1)) := hI (take_step hk1 hk2 hno (at_eq (by rw [← hx, ← hx1, hxy.1]) (by rw [← hy, ← hy1, hxy.2.1]) (by rw [← hz, ← hz1, hxy.2.2])))
          clear HC hx hx1 hy hy1 hz hz1 hno hxy
          go_wp2_with fail
          clear c0 c1 c2 d0 d1 d2
          go_region_held3 (fun W => W.cell? ⟨b0, off + k * 3, none⟩ = some (.string x) ∧ W.cell? ⟨b0, off + k * 3 + 1, none⟩ = some (.string y) ∧ W.cell? ⟨b0, off + k * 3 + 2, none⟩ = some (.string z) ∧ W.cell? ⟨b1, of1 + k * 3, none⟩ = some (.string x1) ∧ W.cell? ⟨b1, of1 + k * 3 + 1, none⟩ = some (.string y1) ∧ W.cell? ⟨b1, of1 + k * 3 + 2, none⟩ = some (.string z1))
            (first | exact HK.out _ (Below.refl _ _).drew | exact HK.out _ (stp (Below.refl _ _).drew hb1))
            ((go_at_call 65; (with_reducible refine (HC2.out _).mono ?_); rintro e1 w1 ⟨rfl, hb1⟩))
          go_wp2_with fail
          go_roundg (gk - 1)
          case measure => omega
          case rel => exact ⟨k + 1, by omega, by go_num, HT.out, stp HBW.out.drew hb1⟩
        · have HC2 : Hid _ := hI fun W => HC.out false W (decide_eq_false hxy)
          obtain rfl : false = q := by
            rw [← HH.out, eq_comm, decide_eq_false_iff_not]
            refine ne_at hk1 hk2 fun e => hxy ⟨ba_x ?_, ba_x ?_, ba_x ?_⟩
            · rw [hx, hx1, e]
            · rw [hy, hy1, e]
            · rw [hz, hz1, e]
          clear HC hx hx1 hy hy1 hz hz1 hno hxy
          go_wp2_with fail
          clear c0 c1 c2 d0 d1 d2
          go_region_held3 (fun W => W.cell? ⟨b0, off + k * 3, none⟩ = some (.string x) ∧ W.cell? ⟨b0, off + k * 3 + 1, none⟩ = some (.string y) ∧ W.cell? ⟨b0, off + k * 3 + 2, none⟩ = some (.string z) ∧ W.cell? ⟨b1, of1 + k * 3, none⟩ = some (.string x1) ∧ W.cell? ⟨b1, of1 + k * 3 + 1, none⟩ = some (.string y1) ∧ W.cell? ⟨b1, of1 + k * 3 + 2, none⟩ = some (.string z1))
            (first | exact HK.out _ (Below.refl _ _).drew | exact HK.out _ (stp (Below.refl _ _).drew hb1))
            ((go_at_call 65; (with_reducible refine (HC2.out _).mono ?_); rintro e1 w1 ⟨rfl, hb1⟩))
          go_wp2_with fail
          go_ret
          exact ⟨rfl, stp HBW.out.drew hb1⟩
      · obtain rfl : k = n := by omega
        obtain rfl : true = q := by
          rw [← HH.out, eq_comm, decide_eq_true_eq]
          rwa [List.take_of_length_le (by rw [HN.out]; exact Nat.le_refl _), List.take_of_length_le (by rw [HN2.out]; exact Nat.le_refl _)] at hno
        clear hno
        go_wp2_with fail
        go_ret
        exact ⟨rfl, HBW.out⟩
  · have d0 : ((n : Int) != (n2 : Int)) = true := by simp; omega
    have d1 : (n != n2) = true := by simpa using hne
    have d2 : (n == n2) = false := by simpa using hne
    obtain rfl : false = q := by
      rw [← HH.out, eq_comm, decide_eq_false_iff_not]
      rintro rfl
      exact hne (HN.out.symm.trans HN2.out)
    clear hne
    go_enter Tryz.func64, Tryz.ntmps64
    go_wp2_with fail
    go_ret
    exact ⟨rfl, Below.refl _ _⟩
theorem boxes_two (w : World) (cs0 cs1 : Array Value) (T : TypeId) : ∀ w1, Below ((w.alloc (.cells cs0 T)).alloc (.cells cs1 T)).heap.size ((w.alloc (.cells cs0 T)).alloc (.cells cs1 T)) w1 →
    w1.heap[w.heap.size]? = some (.cells cs0 T (0, 0)) ∧ w1.heap[w.heap.size + 1]? = some (.cells cs1 T (0, 0)) ∧ Below w.heap.size w w1 := by
  intro w1 hb
  have h0 := heap_alloc_new w (.cells cs0 T)
  have h1 := heap_alloc_new (w.alloc (.cells cs0 T)) (.cells cs1 T)
  rw [World.size_alloc] at h1
  exact ⟨kept_heap (kept_heap h0 (stpA (Below.refl _ _) _)) hb, kept_heap h1 hb, stp (stpA (stpA (Below.refl w.heap.size w) _) _) hb⟩
theorem ndsame10 (nd nd' : Nd) (x0 y0 z0 x1 y1 z1 : ByteArray) (A0 A1 : Option Addr) (c0 c1 : Nat) (w : World) (h0 : NdAt nd x0 y0 z0 A0 c0 w) (h1 : NdAt nd' x1 y1 z1 A1 c1 w) (ha0 : nd.attrs.length ≤ 1000000) (ha1 : nd'.attrs.length ≤ 1000000) (q : Bool) (h : decide (nd = nd') = q) :
    Calls Tryz.prog 63 #[NdV nd x0 y0 z0 A0 c0, NdV nd' x1 y1 z1 A1 c1] w fun e w' => e = .returned (.bool q) ∧ Below w.heap.size w w' := by
  unfold NdV
  obtain ⟨qa, hqa⟩ : ∃ qa, decide (nd.attrs = nd'.attrs) = qa := ⟨_, rfl⟩
  have hrA : ∀ W, Below w.heap.size w W → RdB AtS W A0 nd.attrs ∧ RdB AtS W A1 nd'.attrs := fun W hW => ⟨(h0.on hW).rd, (h1.on hW).rd⟩
  have hbx := boxes_two w #[.int .u8 (nd.kind : Int), .string x0, .string y0, .slice A0 nd.attrs.length c0, .string z0, .int .i64 nd.many] #[.int .u8 (nd'.kind : Int), .string x1, .string y1, .slice A1 nd'.attrs.length c1, .string z1, .int .i64 nd'.many] 28
  have hr2 := hrA _ (stpA (stpA (Below.refl w.heap.size w) (.cells #[.int .u8 (nd.kind : Int), .string x0, .string y0, .slice A0 nd.attrs.length c0, .string z0, .int .i64 nd.many] 28)) (.cells #[.int .u8 (nd'.kind : Int), .string x1, .string y1, .slice A1 nd'.attrs.length c1, .string z1, .int .i64 nd'.many] 28))
  have hs := ats10 A0 A1 _ c0 _ c1 nd.attrs nd'.attrs _ hr2.1 rfl hr2.2 rfl ha0 ha1 qa hqa
  clear hr2
  obtain ⟨kd0, hk0⟩ : ∃ kd0, nd.kind = kd0 := ⟨_, rfl⟩
  obtain ⟨kd1, hk1⟩ : ∃ kd1, nd'.kind = kd1 := ⟨_, rfl⟩
  obtain ⟨n0, hn0⟩ : ∃ n0, nd.attrs.length = n0 := ⟨_, rfl⟩
  obtain ⟨n1, hn1⟩ : ∃ n1, nd'.attrs.length = n1 := ⟨_, rfl⟩
  obtain ⟨m0, hm0⟩ : ∃ m0, nd.many = m0 := ⟨_, rfl⟩
  obtain ⟨m1, hm1⟩ : ∃ m1, nd'.many = m1 := ⟨_, rfl⟩
  have e1 := h0.space; have e2 := h0.name; have e3 := h0.text
  have g1 := h1.space; have g2 := h1.name; have g3 := h1.text
  rw [hk0, hk1, hn0, hn1, hm0, hm1] at hs hbx
  rw [hk0, hk1, hn0, hn1, hm0, hm1]
  have HS := hI hs
  have HBX := hI hbx
  have hall : nd = nd' ↔ qa = true ∧ kd0 = kd1 ∧ x0 = x1 ∧ y0 = y1 ∧ z0 = z1 ∧ m0 = m1 := by
    rw [← hqa, decide_eq_true_eq]
    constructor
    · intro e
      rw [e] at hk0 hm0 e1 e2 e3
      exact ⟨by rw [e], hk0.symm.trans hk1, ba_x (e1.trans g1.symm), ba_x (e2.trans g2.symm), ba_x (e3.trans g3.symm), hm0.symm.trans hm1⟩
    · rintro ⟨k0, k1, k2, k3, k4, k5⟩
      exact nd_eq (hk0.trans (k1.trans hk1.symm)) (e1.symm.trans ((congrArg (fun b : ByteArray => b.data.toList) k2).trans g1)) (e2.symm.trans ((congrArg (fun b : ByteArray => b.data.toList) k3).trans g2)) k0 (e3.symm.trans ((congrArg (fun b : ByteArray => b.data.toList) k4).trans g3)) (hm0.trans (k5.trans hm1.symm))
  have hq : q = decide (qa = true ∧ kd0 = kd1 ∧ x0 = x1 ∧ y0 = y1 ∧ z0 = z1 ∧ m0 = m1) := by rw [← h, decide_eq_decide]; exact hall
  clear hall hs hbx hrA h h0 h1 ha0 ha1 hqa hk0 hk1 hn0 hn1 hm0 hm1 e1 e2 e3 g1 g2 g3
  by_cases p0 : qa = true
  case neg =>

    obtain rfl : q = false := by rw [hq]; exact decide_eq_false fun e => p0 e.1
    clear hq
    obtain rfl : qa = false := by simpa using p0
    go_enter Tryz.func63, Tryz.ntmps63
    go_wp2_with (first
      | (go_at_call 64; (with_reducible refine (HS.out).mono ?_); rintro e1 w1 ⟨rfl, hb1⟩; have hbx := HBX.out w1 hb1; have HB1 : Hid (Below w.heap.size w w1) := hI hbx.2.2; have c0 := cellV w1 _ 0 _ _ _ hbx.1; have c1 := cellV w1 _ 1 _ _ _ hbx.1; have c2 := cellV w1 _ 2 _ _ _ hbx.1; have c4 := cellV w1 _ 4 _ _ _ hbx.1; have c5 := cellV w1 _ 5 _ _ _ hbx.1; have d0 := cellV w1 _ 0 _ _ _ hbx.2.1; have d1 := cellV w1 _ 1 _ _ _ hbx.2.1; have d2 := cellV w1 _ 2 _ _ _ hbx.2.1; have d4 := cellV w1 _ 4 _ _ _ hbx.2.1; have d5 := cellV w1 _ 5 _ _ _ hbx.2.1; clear hbx hb1)
      | fail)
    go_ret
    exact ⟨rfl, HB1.out⟩
  subst p0
  by_cases p1 : kd0 = kd1
  case neg =>

    obtain rfl : q = false := by rw [hq]; exact decide_eq_false fun e => p1 e.2.1
    clear hq
    have f1 : ((kd0 : Int) == (kd1 : Int)) = false := by simp; omega
    have f2 : ¬ (kd0 : Int) = (kd1 : Int) := by omega
    have f3 : (kd0 == kd1) = false := by simpa using p1
    go_enter Tryz.func63, Tryz.ntmps63
    go_wp2_with (first
      | (go_at_call 64; (with_reducible refine (HS.out).mono ?_); rintro e1 w1 ⟨rfl, hb1⟩; have hbx := HBX.out w1 hb1; have HB1 : Hid (Below w.heap.size w w1) := hI hbx.2.2; have c0 := cellV w1 _ 0 _ _ _ hbx.1; have c1 := cellV w1 _ 1 _ _ _ hbx.1; have c2 := cellV w1 _ 2 _ _ _ hbx.1; have c4 := cellV w1 _ 4 _ _ _ hbx.1; have c5 := cellV w1 _ 5 _ _ _ hbx.1; have d0 := cellV w1 _ 0 _ _ _ hbx.2.1; have d1 := cellV w1 _ 1 _ _ _ hbx.2.1; have d2 := cellV w1 _ 2 _ _ _ hbx.2.1; have d4 := cellV w1 _ 4 _ _ _ hbx.2.1; have d5 := cellV w1 _ 5 _ _ _ hbx.2.1; clear hbx hb1)
      | fail)
    go_ret
    exact ⟨rfl, HB1.out⟩
  subst p1
  by_cases p2 : x0 = x1
  case neg =>

    obtain rfl : q = false := by rw [hq]; exact decide_eq_false fun e => p2 e.2.2.1
    clear hq
    have f1 : (x0.toList == x1.toList) = false := by rw [seq_l, decide_eq_false_iff_not]; exact fun e => p2 (ba_x e)
    have f2 : ¬ x0.toList = x1.toList := by simpa using f1
    go_enter Tryz.func63, Tryz.ntmps63
    go_wp2_with (first
      | (go_at_call 64; (with_reducible refine (HS.out).mono ?_); rintro e1 w1 ⟨rfl, hb1⟩; have hbx := HBX.out w1 hb1; have HB1 : Hid (Below w.heap.size w w1) := hI hbx.2.2; have c0 := cellV w1 _ 0 _ _ _ hbx.1; have c1 := cellV w1 _ 1 _ _ _ hbx.1; have c2 := cellV w1 _ 2 _ _ _ hbx.1; have c4 := cellV w1 _ 4 _ _ _ hbx.1; have c5 := cellV w1 _ 5 _ _ _ hbx.1; have d0 := cellV w1 _ 0 _ _ _ hbx.2.1; have d1 := cellV w1 _ 1 _ _ _ hbx.2.1; have d2 := cellV w1 _ 2 _ _ _ hbx.2.1; have d4 := cellV w1 _ 4 _ _ _ hbx.2.1; have d5 := cellV w1 _ 5 _ _ _ hbx.2.1; clear hbx hb1)
      | fail)
    go_ret
    exact ⟨rfl, HB1.out⟩
  subst p2
  by_cases p3 : y0 = y1
  case neg =>

    obtain rfl : q = false := by rw [hq]; exact decide_eq_false fun e => p3 e.2.2.2.1
    clear hq
    have f1 : (y0.toList == y1.toList) = false := by rw [seq_l, decide_eq_false_iff_not]; exact fun e => p3 (ba_x e)
    have f2 : ¬ y0.toList = y1.toList := by simpa using f1
    go_enter Tryz.func63, Tryz.ntmps63
    go_wp2_with (first
      | (go_at_call 64; (with_reducible refine (HS.out).mono ?_); rintro e1 w1 ⟨rfl, hb1⟩; have hbx := HBX.out w1 hb1; have HB1 : Hid (Below w.heap.size w w1) := hI hbx.2.2; have c0 := cellV w1 _ 0 _ _ _ hbx.1; have c1 := cellV w1 _ 1 _ _ _ hbx.1; have c2 := cellV w1 _ 2 _ _ _ hbx.1; have c4 := cellV w1 _ 4 _ _ _ hbx.1; have c5 := cellV w1 _ 5 _ _ _ hbx.1; have d0 := cellV w1 _ 0 _ _ _ hbx.2.1; have d1 := cellV w1 _ 1 _ _ _ hbx.2.1; have d2 := cellV w1 _ 2 _ _ _ hbx.2.1; have d4 := cellV w1 _ 4 _ _ _ hbx.2.1; have d5 := cellV w1 _ 5 _ _ _ hbx.2.1; clear hbx hb1)
      | fail)
    go_ret
    exact ⟨rfl, HB1.out⟩
  subst p3
  by_cases p4 : z0 = z1
  case neg =>

    obtain rfl : q = false := by rw [hq]; exact decide_eq_false fun e => p4 e.2.2.2.2.1
    clear hq
    have f1 : (z0.toList == z1.toList) = false := by rw [seq_l, decide_eq_false_iff_not]; exact fun e => p4 (ba_x e)
    have f2 : ¬ z0.toList = z1.toList := by simpa using f1
    go_enter Tryz.func63, Tryz.ntmps63
    go_wp2_with (first
      | (go_at_call 64; (with_reducible refine (HS.out).mono ?_); rintro e1 w1 ⟨rfl, hb1⟩; have hbx := HBX.out w1 hb1; have HB1 : Hid (Below w.heap.size w w1) := hI hbx.2.2; have c0 := cellV w1 _ 0 _ _ _ hbx.1; have c1 := cellV w1 _ 1 _ _ _ hbx.1; have c2 := cellV w1 _ 2 _ _ _ hbx.1; have c4 := cellV w1 _ 4 _ _ _ hbx.1; have c5 := cellV w1 _ 5 _ _ _ hbx.1; have d0 := cellV w1 _ 0 _ _ _ hbx.2.1; have d1 := cellV w1 _ 1 _ _ _ hbx.2.1; have d2 := cellV w1 _ 2 _ _ _ hbx.2.1; have d4 := cellV w1 _ 4 _ _ _ hbx.2.1; have d5 := cellV w1 _ 5 _ _ _ hbx.2.1; clear hbx hb1)
      | fail)
    go_ret
    exact ⟨rfl, HB1.out⟩
  subst p4
  by_cases p5 : m0 = m1
  case neg =>

    obtain rfl : q = false := by rw [hq]; exact decide_eq_false fun e => p5 e.2.2.2.2.2
    clear hq
    have f1 : (m0 == m1) = false := by simpa using p5
    go_enter Tryz.func63, Tryz.ntmps63
    go_wp2_with (first
      | (go_at_call 64; (with_reducible refine (HS.out).mono ?_); rintro e1 w1 ⟨rfl, hb1⟩; have hbx := HBX.out w1 hb1; have HB1 : Hid (Below w.heap.size w w1) := hI hbx.2.2; have c0 := cellV w1 _ 0 _ _ _ hbx.1; have c1 := cellV w1 _ 1 _ _ _ hbx.1; have c2 := cellV w1 _ 2 _ _ _ hbx.1; have c4 := cellV w1 _ 4 _ _ _ hbx.1; have c5 := cellV w1 _ 5 _ _ _ hbx.1; have d0 := cellV w1 _ 0 _ _ _ hbx.2.1; have d1 := cellV w1 _ 1 _ _ _ hbx.2.1; have d2 := cellV w1 _ 2 _ _ _ hbx.2.1; have d4 := cellV w1 _ 4 _ _ _ hbx.2.1; have d5 := cellV w1 _ 5 _ _ _ hbx.2.1; clear hbx hb1)
      | fail)
    go_ret
    exact ⟨rfl, HB1.out⟩
  subst p5
  obtain rfl : q = true := by rw [hq]; exact decide_eq_true ⟨rfl, rfl, rfl, rfl, rfl, rfl⟩
  clear hq
  go_enter Tryz.func63, Tryz.ntmps63
  go_wp2_with (first
    | (go_at_call 64; (with_reducible refine (HS.out).mono ?_); rintro e1 w1 ⟨rfl, hb1⟩; have hbx := HBX.out w1 hb1; have HB1 : Hid (Below w.heap.size w w1) := hI hbx.2.2; have c0 := cellV w1 _ 0 _ _ _ hbx.1; have c1 := cellV w1 _ 1 _ _ _ hbx.1; have c2 := cellV w1 _ 2 _ _ _ hbx.1; have c4 := cellV w1 _ 4 _ _ _ hbx.1; have c5 := cellV w1 _ 5 _ _ _ hbx.1; have d0 := cellV w1 _ 0 _ _ _ hbx.2.1; have d1 := cellV w1 _ 1 _ _ _ hbx.2.1; have d2 := cellV w1 _ 2 _ _ _ hbx.2.1; have d4 := cellV w1 _ 4 _ _ _ hbx.2.1; have d5 := cellV w1 _ 5 _ _ _ hbx.2.1; clear hbx hb1)
    | fail)
  go_ret
  exact ⟨rfl, HB1.out⟩
theorem nds10 (A B : Option Addr) (n cp n2 cp2 : Nat) (l l2 : List Nd) (w : World) (hr : RdB NdS w A l) (hn : l.length = n) (hr2 : RdB NdS w B l2) (hn2 : l2.length = n2) (hm : n ≤ 1000000) (hm2 : n2 ≤ 1000000)
    (hat : ∀ t ∈ l, t.attrs.length ≤ 1000000) (hat2 : ∀ t ∈ l2, t.attrs.length ≤ 1000000) (q : Bool) (h : decide (l = l2) = q) :
    Calls Tryz.prog 62 #[.slice A n cp, .slice B n2 cp2, .func (.func 63) #[] #[]] w fun e w' => e = .returned (.bool q) ∧ Below w.heap.size w w' := by
  have HR := hI hr
  have HN := hI hn
  have HR2 := hI hr2
  have HN2 := hI hn2
  have HM := hI hm
  have HH := hI h
  have HAT := hI hat
  have HAT2 := hI hat2
  clear hr hn hr2 hn2 h hat hat2
  by_cases hne : n = n2
  · subst hne
    have f0 : ((n : Int) != (n : Int)) = false := by simp
    go_enter Tryz.func62, Tryz.ntmps62
    go_wp2_with fail
    go_loopg [7, 15] n (fun gg x7 i wr => ∃ k : Nat, k + gg = n ∧ i = .int .i64 k ∧ l.take k = l2.take k ∧ Below w.heap.size w wr)
    case atStart => exact ⟨0, by omega, rfl, rfl, Below.refl _ _⟩
    case round =>
      obtain ⟨k, hkg, rfl, hno, hbw⟩ := hrel
      have hm := HM.out
      have HBW := hI hbw
      by_cases hlt : k < n
      · have hk1 : k < l.length := by rw [HN.out]; exact hlt
        have hk2 : k < l2.length := by rw [HN2.out]; exact hlt
        obtain ⟨b0, off, x, y, t, A1, p1, rfl, hbB, hin, c0, c1, c2, c3, c4, c5⟩ := nd_at (HR.out.on hbw) hk1
        obtain ⟨b1, of1, x1, y1, t1, A2, p2, rfl, hbB1, hin1, d0, d1, d2, d3, d4, d5⟩ := nd_at (HR2.out.on hbw) hk2
        have ha0 := HAT.out _ (List.getElem_mem hk1)
        have ha1 := HAT2.out _ (List.getElem_mem hk2)
        obtain ⟨nd0, hnd0⟩ : ∃ nd0, l[k]'hk1 = nd0 := ⟨_, rfl⟩
        obtain ⟨nd1, hnd1⟩ : ∃ nd1, l2[k]'hk2 = nd1 := ⟨_, rfl⟩
        rw [hnd0] at hin c0 c3 c5 ha0
        rw [hnd1] at hin1 d0 d3 d5 ha1
        have bk : (0 : Int) ≤ (k : Int) ∧ (k : Int) < (n : Int) := by omega
        have hC : ∀ qq W, Below wr.heap.size wr W → decide (nd0 = nd1) = qq → Calls Tryz.prog 63 #[NdV nd0 x y t A1 p1, NdV nd1 x1 y1 t1 A2 p2] W fun e w' => e = .returned (.bool qq) ∧ Below W.heap.size W w' := fun qq W hW hq => ndsame10 nd0 nd1 x y t x1 y1 t1 A1 A2 p1 p2 W (NdAt.on hin hW) (NdAt.on hin1 hW) ha0 ha1 qq hq
        unfold NdV at hC
        obtain ⟨kd0, hkd0⟩ : ∃ kd0, nd0.kind = kd0 := ⟨_, rfl⟩
        obtain ⟨kd1, hkd1⟩ : ∃ kd1, nd1.kind = kd1 := ⟨_, rfl⟩
        obtain ⟨n1, hn1⟩ : ∃ n1, nd0.attrs.length = n1 := ⟨_, rfl⟩
        obtain ⟨n3, hn3⟩ : ∃ n3, nd1.attrs.length = n3 := ⟨_, rfl⟩
        obtain ⟨m0, hm0⟩ : ∃ m0, nd0.many = m0 := ⟨_, rfl⟩
        obtain ⟨m1, hm1⟩ : ∃ m1, nd1.many = m1 := ⟨_, rfl⟩
        rw [hkd0, hkd1, hn1, hn3, hm0, hm1] at hC
        rw [hkd0] at c0
        rw [hn1] at c3
        rw [hm0] at c5
        rw [hkd1] at d0
        rw [hn3] at d3
        rw [hm1] at d5
        have HK : Hid (∀ W, Below wr.heap.size wr W → W.cell? ⟨b0, off + k * 6, none⟩ = some (.int .u8 (kd0 : Int)) ∧ W.cell? ⟨b0, off + k * 6 + 1, none⟩ = some (.string x) ∧ W.cell? ⟨b0, off + k * 6 + 2, none⟩ = some (.string y) ∧ W.cell? ⟨b0, off + k * 6 + 3, none⟩ = some (.slice A1 n1 p1) ∧ W.cell? ⟨b0, off + k * 6 + 4, none⟩ = some (.string t) ∧ W.cell? ⟨b0, off + k * 6 + 5, none⟩ = some (.int .i64 m0) ∧ W.cell? ⟨b1, of1 + k * 6, none⟩ = some (.int .u8 (kd1 : Int)) ∧ W.cell? ⟨b1, of1 + k * 6 + 1, none⟩ = some (.string x1) ∧ W.cell? ⟨b1, of1 + k * 6 + 2, none⟩ = some (.string y1) ∧ W.cell? ⟨b1, of1 + k * 6 + 3, none⟩ = some (.slice A2 n3 p2) ∧ W.cell? ⟨b1, of1 + k * 6 + 4, none⟩ = some (.string t1) ∧ W.cell? ⟨b1, of1 + k * 6 + 5, none⟩ = some (.int .i64 m1)) := hI fun W hW =>
          ⟨(hW.cell (p := ⟨b0, _, none⟩) hbB).trans c0, (hW.cell (p := ⟨b0, _, none⟩) hbB).trans c1, (hW.cell (p := ⟨b0, _, none⟩) hbB).trans c2, (hW.cell (p := ⟨b0, _, none⟩) hbB).trans c3, (hW.cell (p := ⟨b0, _, none⟩) hbB).trans c4, (hW.cell (p := ⟨b0, _, none⟩) hbB).trans c5, (hW.cell (p := ⟨b1, _, none⟩) hbB1).trans d0, (hW.cell (p := ⟨b1, _, none⟩) hbB1).trans d1, (hW.cell (p := ⟨b1, _, none⟩) hbB1).trans d2, (hW.cell (p := ⟨b1, _, none⟩) hbB1).trans d3, (hW.cell (p := ⟨b1, _, none⟩) hbB1).trans d4, (hW.cell (p := ⟨b1, _, none⟩) hbB1).trans d5⟩
        by_cases hxy : nd0 = nd1
        · have HC2 : Hid _ := hI fun W hW => hC true W hW (decide_eq_true hxy)
          have HT : Hid (l.take (k + 1) = l2.take (k + 1)) := hI (take_step hk1 hk2 hno (by rw [hnd0, hnd1, hxy]))
          clear hC hno hxy hin hin1 ha0 ha1 hnd0 hnd1 hkd0 hkd1 hn1 hn3 hm0 hm1 hbw hbB hbB1
          go_wp2_with fail
          clear c0 c1 c2 c3 c4 c5 d0 d1 d2 d3 d4 d5
          go_region_held3 (fun W => W.cell? ⟨b0, off + k * 6, none⟩ = some (.int .u8 (kd0 : Int)) ∧ W.cell? ⟨b0, off + k * 6 + 1, none⟩ = some (.string x) ∧ W.cell? ⟨b0, off + k * 6 + 2, none⟩ = some (.string y) ∧ W.cell? ⟨b0, off + k * 6 + 3, none⟩ = some (.slice A1 n1 p1) ∧ W.cell? ⟨b0, off + k * 6 + 4, none⟩ = some (.string t) ∧ W.cell? ⟨b0, off + k * 6 + 5, none⟩ = some (.int .i64 m0) ∧ W.cell? ⟨b1, of1 + k * 6, none⟩ = some (.int .u8 (kd1 : Int)) ∧ W.cell? ⟨b1, of1 + k * 6 + 1, none⟩ = some (.string x1) ∧ W.cell? ⟨b1, of1 + k * 6 + 2, none⟩ = some (.string y1) ∧ W.cell? ⟨b1, of1 + k * 6 + 3, none⟩ = some (.slice A2 n3 p2) ∧ W.cell? ⟨b1, of1 + k * 6 + 4, none⟩ = some (.string t1) ∧ W.cell? ⟨b1, of1 + k * 6 + 5, none⟩ = some (.int .i64 m1))
            (first | exact HK.out _ (Below.refl _ _).drew | exact HK.out _ (stp (Below.refl _ _).drew hb1))
            ((go_at_call 63; (with_reducible refine (HC2.out _ (Below.refl _ _).drew).mono ?_); rintro e1 w1 ⟨rfl, hb1⟩))
          go_wp2_with fail
          go_roundg (gk - 1)
          case measure => omega
          case rel => exact ⟨k + 1, by omega, by go_num, HT.out, stp HBW.out.drew hb1⟩
        · have HC2 : Hid _ := hI fun W hW => hC false W hW (decide_eq_false hxy)
          obtain rfl : false = q := by
            rw [← HH.out, eq_comm, decide_eq_false_iff_not]
            refine ne_at hk1 hk2 fun e => hxy ?_
            rw [← hnd0, ← hnd1, e]
          clear hC hno hxy hin hin1 ha0 ha1 hnd0 hnd1 hkd0 hkd1 hn1 hn3 hm0 hm1 hbw hbB hbB1
          go_wp2_with fail
          clear c0 c1 c2 c3 c4 c5 d0 d1 d2 d3 d4 d5
          go_region_held3 (fun W => W.cell? ⟨b0, off + k * 6, none⟩ = some (.int .u8 (kd0 : Int)) ∧ W.cell? ⟨b0, off + k * 6 + 1, none⟩ = some (.string x) ∧ W.cell? ⟨b0, off + k * 6 + 2, none⟩ = some (.string y) ∧ W.cell? ⟨b0, off + k * 6 + 3, none⟩ = some (.slice A1 n1 p1) ∧ W.cell? ⟨b0, off + k * 6 + 4, none⟩ = some (.string t) ∧ W.cell? ⟨b0, off + k * 6 + 5, none⟩ = some (.int .i64 m0) ∧ W.cell? ⟨b1, of1 + k * 6, none⟩ = some (.int .u8 (kd1 : Int)) ∧ W.cell? ⟨b1, of1 + k * 6 + 1, none⟩ = some (.string x1) ∧ W.cell? ⟨b1, of1 + k * 6 + 2, none⟩ = some (.string y1) ∧ W.cell? ⟨b1, of1 + k * 6 + 3, none⟩ = some (.slice A2 n3 p2) ∧ W.cell? ⟨b1, of1 + k * 6 + 4, none⟩ = some (.string t1) ∧ W.cell? ⟨b1, of1 + k * 6 + 5, none⟩ = some (.int .i64 m1))
            (first | exact HK.out _ (Below.refl _ _).drew | exact HK.out _ (stp (Below.refl _ _).drew hb1))
            ((go_at_call 63; (with_reducible refine (HC2.out _ (Below.refl _ _).drew).mono ?_); rintro e1 w1 ⟨rfl, hb1⟩))
          go_wp2_with fail
          go_ret
          exact ⟨rfl, stp HBW.out.drew hb1⟩
      · obtain rfl : k = n := by omega
        obtain rfl : true = q := by
          rw [← HH.out, eq_comm, decide_eq_true_eq]
          rwa [List.take_of_length_le (by rw [HN.out]; exact Nat.le_refl _), List.take_of_length_le (by rw [HN2.out]; exact Nat.le_refl _)] at hno
        clear hno
        go_wp2_with fail
        go_ret
        exact ⟨rfl, HBW.out⟩
  · have d0 : ((n : Int) != (n2 : Int)) = true := by simp; omega
    have d1 : (n != n2) = true := by simpa using hne
    have d2 : (n == n2) = false := by simpa using hne
    obtain rfl : false = q := by
      rw [← HH.out, eq_comm, decide_eq_false_iff_not]
      rintro rfl
      exact hne (HN.out.symm.trans HN2.out)
    clear hne
    go_enter Tryz.func62, Tryz.ntmps62
    go_wp2_with fail
    go_ret
    exact ⟨rfl, Below.refl _ _⟩
theorem same10 (A B : Option Addr) (n cp n2 cp2 : Nat) (l l2 : List Nd) (w : World) (hr : RdB NdS w A l) (hn : l.length = n) (hr2 : RdB NdS w B l2) (hn2 : l2.length = n2) (hm : n ≤ 1000000) (hm2 : n2 ≤ 1000000)
    (hat : ∀ t ∈ l, t.attrs.length ≤ 1000000) (hat2 : ∀ t ∈ l2, t.attrs.length ≤ 1000000) (q : Bool) (h : decide (l = l2) = q) :
    Calls Tryz.prog 27 #[.slice A n cp, .slice B n2 cp2] w fun e w' => e = .returned (.bool q) ∧ Below w.heap.size w w' := by
  have HC := hI (nds10 A B n cp n2 cp2 l l2 w hr hn hr2 hn2 hm hm2 hat hat2 q h)
  clear hr hn hr2 hn2 hm hm2 hat hat2 h
  go_enter Tryz.func27, Tryz.ntmps27
  go_wp2_with (first
    | (go_at_call 62; (with_reducible refine (HC.out).mono ?_); rintro e1 w1 ⟨rfl, hb1⟩)
    | fail)
  go_ret
  exact ⟨rfl, hb1⟩
end Hx
end Go.Proofs.YtioiifdcgdoanaaGreatDoor
