/-
  Texts of one seat, put together: SpaF.
-/
import Derived.Test.YteobcohjikjalaaGreatDoorSp32
set_option linter.unusedSimpArgs false
namespace Go.Proofs.YteobcohjikjalaaGreatDoor
open Go.RowKit
namespace Hx
open Lx Tr Tx Nmb Es Ns
set_option maxRecDepth 100000
set_option maxHeartbeats 16000000
set_option linter.unusedVariables false
theorem emp_lit (v : ByteArray) (q : Bool) (h : decide (v.data.toList = []) = q) : v.toList.isEmpty = q := by
  rw [em_lR, ← h]
  cases v.data.toList <;> rfl
theorem all_from (l : List At) (j : Nat) (a : At) (hj : j < l.length) (ha : l[j]'hj = a) : (l.drop j).all mayAn = (mayAn a && (l.drop (j + 1)).all mayAn) := by
  rw [List.drop_eq_getElem_cons hj, List.all_cons, ha]
theorem maytell11 (n : Nd) (x y z : ByteArray) (A : Option Addr) (c : Nat) (w : World) (h : NdAt n x y z A c w) (hs : SmallN n) (hk : n.kind = 1) (q : Bool) (hq : mayNs n = q) :
    Calls Tryz.prog 32 #[NdV n x y z A c] w fun e w' => e = .returned (.bool q) ∧ Below w.heap.size w w' := by
  have HBO : Hid (∀ o, Below w.heap.size w (w.alloc o)) := Lib.hid fun o => (Below.refl _ _).alloc (Nat.le_refl _) o
  have HR := Lib.hid h.rd
  have HYS : Hid (y.size ≤ 1000000) := Lib.hid (by rw [← ba_l, h.name]; exact hs.name)
  have HEA := Lib.hid hs.each
  obtain ⟨m, hm⟩ : ∃ m, n.attrs.length = m := ⟨_, rfl⟩
  have bm : (m : Int) ≤ 1000000 := by have := hs.attrs; omega
  have HNL := Lib.hid hm
  obtain ⟨y9, hmy⟩ : ∃ y9, n.many = y9 := ⟨_, rfl⟩
  obtain ⟨a1, h1⟩ : ∃ a, nameL y.data.toList = a := ⟨_, rfl⟩
  obtain ⟨a2, h2⟩ : ∃ a, decide (x.data.toList = ofXml) = a := ⟨_, rfl⟩
  obtain ⟨a3, h3⟩ : ∃ a, decide (x.data.toList = ofXmlns) = a := ⟨_, rfl⟩
  have HQ : Hid (q = (a1 && !a2 && !a3 && n.attrs.all mayAn)) := Lib.hid (by
    rw [← hq, ← h1, ← h2, ← h3, h.space, h.name]
    unfold mayNs
    rw [hk]
    simp)
  have HNM : Hid (∀ W : World, Calls Tryz.prog 55 #[.string y] W fun e w' => e = .returned (.bool a1) ∧ Below W.heap.size W w') := Lib.hid fun W => name9 y W HYS.out a1 h1
  have f2 := eq_lit x ofXml a2 h2
  have f3 := eq_lit x ofXmlns a3 h3
  unfold ofXml at f2
  unfold ofXmlns at f3
  obtain ⟨l, hl⟩ : ∃ l, n.attrs = l := ⟨_, rfl⟩
  rw [hl] at HR HEA HNL HQ
  unfold NdV
  rw [hk, hm, hmy]
  clear h hs hk hq h1 h2 h3 hm hmy hl
  cases a1 with
  | false =>
    obtain rfl : q = false := HQ.out
    go_enter Tryz.func32, Tryz.ntmps32
    go_wp2_with (first
      | (go_at_call 55; (with_reducible refine (HNM.out _).mono ?_); rintro e1 w1 ⟨rfl, hb1⟩; have HB1 : Hid (Below w.heap.size w w1) := Lib.hid (bel_in9 (HBO.out _) hb1); have HX1 := Lib.hid (kept_heap (heap_alloc_new w (.cells #[.int .u8 ((1 : Nat) : Int), .string x, .string y, .slice A m c, .string z, .int .i64 y9] 39)) hb1); have d11 := cellV w1 _ 1 _ _ _ HX1.out; have d13 := cellV w1 _ 3 _ _ _ HX1.out; clear hb1)
      | fail)
    go_ret
    exact ⟨rfl, HB1.out⟩
  | true =>
    cases a2 with
    | true =>
      obtain rfl : q = false := HQ.out
      go_enter Tryz.func32, Tryz.ntmps32
      go_wp2_with (first
        | (go_at_call 55; (with_reducible refine (HNM.out _).mono ?_); rintro e1 w1 ⟨rfl, hb1⟩; have HB1 : Hid (Below w.heap.size w w1) := Lib.hid (bel_in9 (HBO.out _) hb1); have HX1 := Lib.hid (kept_heap (heap_alloc_new w (.cells #[.int .u8 ((1 : Nat) : Int), .string x, .string y, .slice A m c, .string z, .int .i64 y9] 39)) hb1); have d11 := cellV w1 _ 1 _ _ _ HX1.out; have d13 := cellV w1 _ 3 _ _ _ HX1.out; clear hb1)
        | fail)
      go_ret
      exact ⟨rfl, HB1.out⟩
    | false =>
      cases a3 with
      | true =>
        obtain rfl : q = false := HQ.out
        go_enter Tryz.func32, Tryz.ntmps32
        go_wp2_with (first
          | (go_at_call 55; (with_reducible refine (HNM.out _).mono ?_); rintro e1 w1 ⟨rfl, hb1⟩; have HB1 : Hid (Below w.heap.size w w1) := Lib.hid (bel_in9 (HBO.out _) hb1); have HX1 := Lib.hid (kept_heap (heap_alloc_new w (.cells #[.int .u8 ((1 : Nat) : Int), .string x, .string y, .slice A m c, .string z, .int .i64 y9] 39)) hb1); have d11 := cellV w1 _ 1 _ _ _ HX1.out; have d13 := cellV w1 _ 3 _ _ _ HX1.out; clear hb1)
          | fail)
        go_ret
        exact ⟨rfl, HB1.out⟩
      | false =>
        have HQ2 : Hid (l.all mayAn = q) := Lib.hid HQ.out.symm
        clear HQ
        go_enter Tryz.func32, Tryz.ntmps32
        go_wp2_with (first
          | (go_at_call 55; (with_reducible refine (HNM.out _).mono ?_); rintro e1 w1 ⟨rfl, hb1⟩; have HB1 : Hid (Below w.heap.size w w1) := Lib.hid (bel_in9 (HBO.out _) hb1); have HX1 := Lib.hid (kept_heap (heap_alloc_new w (.cells #[.int .u8 ((1 : Nat) : Int), .string x, .string y, .slice A m c, .string z, .int .i64 y9] 39)) hb1); have d11 := cellV w1 _ 1 _ _ _ HX1.out; have d13 := cellV w1 _ 3 _ _ _ HX1.out; clear hb1)
          | fail)
        go_loopg [22] m (fun gg i wr => ∃ j : Nat, j + gg = m ∧ i = .int .i64 j ∧ (l.drop j).all mayAn = q ∧ Below w.heap.size w wr)
        case atStart => exact ⟨0, by omega, rfl, HQ2.out, HB1.out⟩
        case round =>
          obtain ⟨j, hjg, rfl, hall, hbw⟩ := hrel
          have HBW := Lib.hid hbw
          by_cases hlt : j < m
          · have hjl : j < l.length := by rw [HNL.out]; exact hlt
            obtain ⟨b0, off, x2, y2, z2, hA, hbB, hx, hy, hz, c0, c1', c2⟩ := at_at HR.out hjl
            have hea := HEA.out _ (List.getElem_mem hjl)
            obtain ⟨a, ha⟩ : ∃ a, l[j]'hjl = a := ⟨_, rfl⟩
            rw [ha] at hx hy hz hea
            have hys2 : y2.size ≤ 1000000 := by rw [sz_le hy]; exact hea.2.1
            have q0 := (HBW.out.cell (p := ⟨b0, _, none⟩) hbB).trans c0
            have q1 := (HBW.out.cell (p := ⟨b0, _, none⟩) hbB).trans c1'
            have q2 := (HBW.out.cell (p := ⟨b0, _, none⟩) hbB).trans c2
            have hal := all_from l j a hjl ha
            rw [hall] at hal
            have bj : (0 : Int) ≤ (j : Int) ∧ (j : Int) < (m : Int) := by omega
            obtain ⟨W1, hW1⟩ : ∃ W1, wr.alloc (.cells #[.string x2, .string y2, .string z2] 41) = W1 := ⟨_, rfl⟩
            have HA1 : Hid (Below wr.heap.size wr W1) := Lib.hid (by rw [← hW1]; exact stpA (Below.refl _ _) _)
            have HY1 : Hid (W1.heap[wr.heap.size]? = some (.cells #[.string x2, .string y2, .string z2] 41 (0, 0))) := Lib.hid (by rw [← hW1]; exact heap_alloc_new wr _)
            have k11 := cellV W1 _ 1 _ _ _ HY1.out
            obtain ⟨b1, h1⟩ : ∃ b, nameL y2.data.toList = b := ⟨_, rfl⟩
            obtain ⟨b2, h2⟩ : ∃ b, decide (x2.data.toList = ofXmlns) = b := ⟨_, rfl⟩
            obtain ⟨b3, h3⟩ : ∃ b, decide (x2.data.toList = []) = b := ⟨_, rfl⟩
            obtain ⟨b4, h4⟩ : ∃ b, decide (y2.data.toList = xmlns5) = b := ⟨_, rfl⟩
            have HM : Hid (q = (b1 && !(b3 && b4) && !b2 && (l.drop (j + 1)).all mayAn)) := Lib.hid (by
              rw [hal]
              congr 1
              unfold mayAn
              rw [← hx, ← hy, h1, h3, h4, ← h2]
              simp)
            have HN2 : Hid (Calls Tryz.prog 55 #[.string y2] W1 fun e w' => e = .returned (.bool b1) ∧ Below W1.heap.size W1 w') := Lib.hid (name9 y2 W1 hys2 b1 h1)
            have g2 := eq_lit x2 ofXmlns b2 h2
            have g3 := emp_lit x2 b3 h3
            have g4 := eq_lit y2 xmlns5 b4 h4
            unfold ofXmlns at g2
            unfold xmlns5 at g4
            subst hA
            clear hall hbw hx hy hz c0 c1' c2 hal ha hea hys2 h1 h2 h3 h4 hjl hbB
            cases b1 with
            | false =>
              obtain rfl : q = false := by rw [HM.out]; simp
              go_wp2_with (first
                | (refine wpList_store_row rfl _ _ _ rfl wr.heap.size #[.string x2, .string y2, .string z2] rfl rfl 41 #[.string ⟨#[]⟩, .string ⟨#[]⟩, .string ⟨#[]⟩] (heap_alloc_new _ _) sizeAt rfl (by simp [Value.oneCell']) ?_; rw [World.setRow_alloc_new, hW1])
                | (go_at_call 55; (with_reducible refine (HN2.out).mono ?_); rintro e2 w2 ⟨rfl, hb2⟩; have HB2 := Lib.hid (stp HA1.out hb2); have HY2 := Lib.hid (kept_heap HY1.out hb2); have k20 := cellV w2 _ 0 _ _ _ HY2.out; have k21 := cellV w2 _ 1 _ _ _ HY2.out; clear hb2)
                | fail)
              go_ret
              exact ⟨rfl, HBW.out.trans (HB2.out.mono HBW.out.size)⟩
            | true =>
              cases b2 with
              | true =>
                obtain rfl : q = false := by rw [HM.out]; simp
                go_wp2_with (first
                  | (refine wpList_store_row rfl _ _ _ rfl wr.heap.size #[.string x2, .string y2, .string z2] rfl rfl 41 #[.string ⟨#[]⟩, .string ⟨#[]⟩, .string ⟨#[]⟩] (heap_alloc_new _ _) sizeAt rfl (by simp [Value.oneCell']) ?_; rw [World.setRow_alloc_new, hW1])
                  | (go_at_call 55; (with_reducible refine (HN2.out).mono ?_); rintro e2 w2 ⟨rfl, hb2⟩; have HB2 := Lib.hid (stp HA1.out hb2); have HY2 := Lib.hid (kept_heap HY1.out hb2); have k20 := cellV w2 _ 0 _ _ _ HY2.out; have k21 := cellV w2 _ 1 _ _ _ HY2.out; clear hb2)
                  | fail)
                go_ret
                exact ⟨rfl, HBW.out.trans (HB2.out.mono HBW.out.size)⟩
              | false =>
                cases b3 with
                | false =>
                  have HM2 : Hid ((l.drop (j + 1)).all mayAn = q) := Lib.hid (by rw [HM.out]; simp)
                  go_wp2_with (first
                    | (refine wpList_store_row rfl _ _ _ rfl wr.heap.size #[.string x2, .string y2, .string z2] rfl rfl 41 #[.string ⟨#[]⟩, .string ⟨#[]⟩, .string ⟨#[]⟩] (heap_alloc_new _ _) sizeAt rfl (by simp [Value.oneCell']) ?_; rw [World.setRow_alloc_new, hW1])
                    | (go_at_call 55; (with_reducible refine (HN2.out).mono ?_); rintro e2 w2 ⟨rfl, hb2⟩; have HB2 := Lib.hid (stp HA1.out hb2); have HY2 := Lib.hid (kept_heap HY1.out hb2); have k20 := cellV w2 _ 0 _ _ _ HY2.out; have k21 := cellV w2 _ 1 _ _ _ HY2.out; clear hb2)
                    | fail)
                  go_roundg (gk - 1)
                  case measure => omega
                  case rel => exact ⟨j + 1, by omega, by go_num, HM2.out, HBW.out.trans (HB2.out.mono HBW.out.size)⟩
                | true =>
                  cases b4 with
                  | true =>
                    obtain rfl : q = false := by rw [HM.out]; simp
                    go_wp2_with (first
                      | (refine wpList_store_row rfl _ _ _ rfl wr.heap.size #[.string x2, .string y2, .string z2] rfl rfl 41 #[.string ⟨#[]⟩, .string ⟨#[]⟩, .string ⟨#[]⟩] (heap_alloc_new _ _) sizeAt rfl (by simp [Value.oneCell']) ?_; rw [World.setRow_alloc_new, hW1])
                      | (go_at_call 55; (with_reducible refine (HN2.out).mono ?_); rintro e2 w2 ⟨rfl, hb2⟩; have HB2 := Lib.hid (stp HA1.out hb2); have HY2 := Lib.hid (kept_heap HY1.out hb2); have k20 := cellV w2 _ 0 _ _ _ HY2.out; have k21 := cellV w2 _ 1 _ _ _ HY2.out; clear hb2)
                      | fail)
                    go_ret
                    exact ⟨rfl, HBW.out.trans (HB2.out.mono HBW.out.size)⟩
                  | false =>
                    have HM2 : Hid ((l.drop (j + 1)).all mayAn = q) := Lib.hid (by rw [HM.out]; simp)
                    go_wp2_with (first
                      | (refine wpList_store_row rfl _ _ _ rfl wr.heap.size #[.string x2, .string y2, .string z2] rfl rfl 41 #[.string ⟨#[]⟩, .string ⟨#[]⟩, .string ⟨#[]⟩] (heap_alloc_new _ _) sizeAt rfl (by simp [Value.oneCell']) ?_; rw [World.setRow_alloc_new, hW1])
                      | (go_at_call 55; (with_reducible refine (HN2.out).mono ?_); rintro e2 w2 ⟨rfl, hb2⟩; have HB2 := Lib.hid (stp HA1.out hb2); have HY2 := Lib.hid (kept_heap HY1.out hb2); have k20 := cellV w2 _ 0 _ _ _ HY2.out; have k21 := cellV w2 _ 1 _ _ _ HY2.out; clear hb2)
                      | fail)
                    go_roundg (gk - 1)
                    case measure => omega
                    case rel => exact ⟨j + 1, by omega, by go_num, HM2.out, HBW.out.trans (HB2.out.mono HBW.out.size)⟩
          · obtain rfl : j = m := by omega
            have hjj : ¬ ((j : Int) < (j : Int)) := by omega
            rw [← HNL.out, List.drop_length] at hall
            obtain rfl : q = true := hall.symm
            clear hbw hall
            go_wp2_with fail
            go_ret
            exact ⟨rfl, HBW.out⟩
end Hx
end Go.Proofs.YteobcohjikjalaaGreatDoor
