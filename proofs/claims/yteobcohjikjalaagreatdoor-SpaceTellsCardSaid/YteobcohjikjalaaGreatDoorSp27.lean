/-
  Texts of one seat, put together: SraE.
-/
import Derived.Test.YteobcohjikjalaaGreatDoorSp26
import Derived.Test.YteobcohjikjalaaGreatDoorSp23
set_option linter.unusedSimpArgs false
namespace Go.Proofs.YteobcohjikjalaaGreatDoor
open Go.RowKit
namespace Hx
open Lx Tr Tx Nmb Es Ns
set_option maxRecDepth 100000
set_option maxHeartbeats 16000000
set_option linter.unusedVariables false
def mayHd (n : Nd) : Bool := (decide (n.kind ≠ 1) || nameL n.name) && decide (n.space ≠ ofXml) && decide (n.space ≠ ofXmlns)
theorem mayNs_eq (n : Nd) : mayNs n = (mayHd n && n.attrs.all mayAn) := rfl
theorem mayS_no {v : List Nd} {k : Nat} (hk : k < v.length) (h : mayNs (v[k]'hk) = false) : mayS v = false := by
  unfold mayS
  have : v.all mayNs = false := by
    rw [List.all_eq_false]
    exact ⟨_, List.getElem_mem hk, by rw [h]; decide⟩
  rw [this]; rfl
theorem mayNs_hd {n : Nd} (h : mayHd n = false) : mayNs n = false := by rw [mayNs_eq, h]; rfl
theorem mayNs_at {n : Nd} {j : Nat} (hj : j < n.attrs.length) (h : mayAn (n.attrs[j]'hj) = false) : mayNs n = false := by
  rw [mayNs_eq, Bool.and_eq_false_iff]
  right
  rw [List.all_eq_false]
  exact ⟨_, List.getElem_mem hj, by rw [h]; decide⟩
theorem rmay11 (A : Option Addr) (n c : Nat) (v : List Nd) (w : World) (hr : RdB NdS w A v) (hn : v.length = n) (hm : n ≤ 1000000) (hsm : ∀ x ∈ v, SmallN x) (q : Bool) (h : mayS v = q) :
    Calls Tryz.prog 28 #[.slice A n c] w fun e w' => e = .returned (.bool q) ∧ Below w.heap.size w w' := by
  have HR := Lib.hid hr
  have HN := Lib.hid hn
  have HM := Lib.hid hm
  have HH := Lib.hid h
  have HSM := Lib.hid hsm
  clear hr hn h hsm
  go_enter Tryz.func28, Tryz.ntmps28
  go_wp2_with fail
  go_loopg [3] n (fun gg i wr => ∃ k : Nat, k + gg = n ∧ i = .int .i64 k ∧ (v.take k).all mayNs = true ∧ Below w.heap.size w wr)
  case atStart => exact ⟨0, by omega, rfl, rfl, Below.refl _ _⟩
  case round =>
    obtain ⟨k, hkg, rfl, hall, hbw⟩ := hrel
    obtain ⟨wo, rfl⟩ : ∃ wo : World, wo = wr := ⟨_, rfl⟩
    obtain ⟨g0, rfl⟩ : ∃ g0 : Nat, g0 = gk := ⟨_, rfl⟩
    have hm := HM.out
    have HALL := Lib.hid hall
    have HBW := Lib.hid hbw
    have HG := Lib.hid hkg
    by_cases hlt : k < n
    · have hk1 : k < v.length := by rw [HN.out]; exact hlt
      obtain ⟨b0, off, x, y, t, A1, c1, rfl, hbB, hin, c0, c1', c2, c3, c4, c5⟩ := nd_at (HR.out.on hbw) hk1
      have hs1 := (HSM.out _ (List.getElem_mem hk1)).attrs
      have hsn := (HSM.out _ (List.getElem_mem hk1)).name
      have HEA := Lib.hid (HSM.out _ (List.getElem_mem hk1)).each
      obtain ⟨nd, hnd⟩ : ∃ nd, v[k]'hk1 = nd := ⟨_, rfl⟩
      have HK1 := Lib.hid hk1
      have HNO : Hid (mayNs nd = false → false = q) := Lib.hid fun hf => by rw [← HH.out]; exact (mayS_no HK1.out (by rw [hnd]; exact hf)).symm
      have HYES : Hid (mayNs nd = true → (v.take (k + 1)).all mayNs = true) := Lib.hid fun hf => all_next HK1.out HALL.out (by rw [hnd]; exact hf)
      rw [hnd] at hin c0 c3 c5 hs1 hsn HEA
      have bk : (0 : Int) ≤ (k : Int) ∧ (k : Int) < (n : Int) := by omega
      have hys : y.size ≤ 1000000 := by rw [← hin.name, ba_l] at hsn; exact hsn
      have HAR := Lib.hid hin.attrs
      obtain ⟨n1, hn1⟩ : ∃ n1, nd.attrs.length = n1 := ⟨_, rfl⟩
      have HN1 := Lib.hid hn1
      rw [hn1] at c3 hs1
      obtain ⟨k1, hk1b⟩ : ∃ k1, decide (nd.kind = 1) = k1 := ⟨_, rfl⟩
      have f0 : ((nd.kind : Int) == 1) = k1 := by
        rw [← hk1b]
        by_cases h : nd.kind = 1
        · rw [decide_eq_true h, h]; rfl
        · rw [decide_eq_false h, beq_eq_false_iff_ne]; omega
      obtain ⟨a2, ha2⟩ : ∃ a2, nameL y.data.toList = a2 := ⟨_, rfl⟩
      have HA2 : Hid (∀ W, Calls Tryz.prog 52 #[.string y] W fun e w' => e = .returned (.bool a2) ∧ W = w') := Lib.hid fun W => rname9 y W hys a2 ha2
      obtain ⟨q3, h3⟩ : ∃ q3, decide (x.data.toList = ofXml) = q3 := ⟨_, rfl⟩
      obtain ⟨q4, h4⟩ : ∃ q4, decide (x.data.toList = ofXmlns) = q4 := ⟨_, rfl⟩
      have f3 := eq_lit x ofXml q3 h3
      have f4 := eq_lit x ofXmlns q4 h4
      unfold ofXml at f3
      unfold ofXmlns at f4
      have HHD : Hid (mayHd nd = ((!k1 || a2) && !q3 && !q4)) := Lib.hid (by
        unfold mayHd
        rw [← hin.name, ← hin.space, ha2, ← h3, ← h4, ← hk1b]
        simp)
      obtain ⟨kd, hkd⟩ : ∃ kd, nd.kind = kd := ⟨_, rfl⟩
      rw [hkd] at c0 f0
      have HLT := Lib.hid hlt
      have HBB := Lib.hid hbB
      clear hall hbw hnd hin hn1 hkd hkg hbB h3 h4 ha2 hk1b hsn hys c4 c5
      cases k1 with
      | true =>
        cases a2 with
        | false =>
          obtain rfl : false = q := HNO.out (mayNs_hd (by rw [HHD.out]; rfl))
          go_wp2_with (first
            | (go_at_call 52; (with_reducible refine (HA2.out _).mono ?_); rintro e2 w2 ⟨rfl, rfl⟩)
            | fail)
          go_ret
          exact ⟨rfl, HBW.out⟩
        | true =>
          cases q3 with
          | true =>
            obtain rfl : false = q := HNO.out (mayNs_hd (by rw [HHD.out]; rfl))
            go_wp2_with (first
              | (go_at_call 52; (with_reducible refine (HA2.out _).mono ?_); rintro e2 w2 ⟨rfl, rfl⟩)
              | fail)
            go_ret
            exact ⟨rfl, HBW.out⟩
          | false =>
            cases q4 with
            | true =>
              obtain rfl : false = q := HNO.out (mayNs_hd (by rw [HHD.out]; rfl))
              go_wp2_with (first
                | (go_at_call 52; (with_reducible refine (HA2.out _).mono ?_); rintro e2 w2 ⟨rfl, rfl⟩)
                | fail)
              go_ret
              exact ⟨rfl, HBW.out⟩
            | false =>
              have HHT : Hid (mayHd nd = true) := Lib.hid (by rw [HHD.out]; rfl)
              go_wp2_with (first
                | (go_at_call 52; (with_reducible refine (HA2.out _).mono ?_); rintro e2 w2 ⟨rfl, rfl⟩)
                | fail)
              go_loopg [4] n1 (fun gg i wi => ∃ j : Nat, j + gg = n1 ∧ i = .int .i64 j ∧ (nd.attrs.take j).all mayAn = true ∧ Below wo.heap.size wo wi)
              case atStart => exact ⟨0, by omega, rfl, rfl, Below.refl _ _⟩
              case round =>
                obtain ⟨j, hjg, rfl, hal2, hb2⟩ := hrel
                have HAL2 := Lib.hid hal2
                have HB2 := Lib.hid hb2
                have HJG := Lib.hid hjg
                have r3 := (hb2.cell (p := ⟨b0, _, none⟩) HBB.out).trans c3; clear c0 c1' c2
                by_cases hlj : j < n1
                · have hj1 : j < nd.attrs.length := by rw [HN1.out]; exact hlj
                  obtain ⟨b1, of1, x1, y1, z1, rfl, hbB1, hx1, hy1, -, d0, d1, d2⟩ := at_at (RdB.on (w := wo) HAR.out hb2) hj1
                  have bj : (0 : Int) ≤ (j : Int) ∧ (j : Int) < (n1 : Int) := by omega
                  have hys1 : y1.size ≤ 1000000 := by
                    have := (HEA.out _ (List.getElem_mem hj1)).2.1
                    rw [← hy1, ba_l] at this
                    exact this
                  obtain ⟨p1, hp1⟩ : ∃ p1, nameL y1.data.toList = p1 := ⟨_, rfl⟩
                  have HP1 : Hid (∀ W, Calls Tryz.prog 52 #[.string y1] W fun e w' => e = .returned (.bool p1) ∧ W = w') := Lib.hid fun W => rname9 y1 W hys1 p1 hp1
                  obtain ⟨p2, hp2⟩ : ∃ p2, decide (x1.data.toList = []) = p2 := ⟨_, rfl⟩
                  obtain ⟨p3, hp3⟩ : ∃ p3, decide (y1.data.toList = xmlns5) = p3 := ⟨_, rfl⟩
                  obtain ⟨p4, hp4⟩ : ∃ p4, decide (x1.data.toList = ofXmlns) = p4 := ⟨_, rfl⟩
                  have g2 : x1.toList.isEmpty = p2 := by
                    rw [em_lR, ← hp2]
                    cases x1.data.toList <;> rfl
                  have g3 := eq_lit y1 xmlns5 p3 hp3
                  have g4 := eq_lit x1 ofXmlns p4 hp4
                  unfold xmlns5 at g3
                  unfold ofXmlns at g4
                  have HAN : Hid (mayAn (nd.attrs[j]'hj1) = (p1 && !(p2 && p3) && !p4)) := Lib.hid (by
                    unfold mayAn
                    rw [← hx1, ← hy1, hp1, hp2, hp3, ← hp4]
                    simp)
                  have HJ1 := Lib.hid hj1
                  obtain ⟨W1, hW1⟩ : ∃ W1, wr.alloc (.cells #[.string x1, .string y1, .string z1] 41) = W1 := ⟨_, rfl⟩
                  have HB1 : Hid (Below wo.heap.size wo W1) := Lib.hid (by rw [← hW1]; exact stpA HB2.out _)
                  have hX1 : W1.heap[wr.heap.size]? = some (.cells #[.string x1, .string y1, .string z1] 41 (0, 0)) := by rw [← hW1]; exact heap_alloc_new wr _
                  have k0 := cellV W1 _ 0 _ _ _ hX1
                  have k1 := cellV W1 _ 1 _ _ _ hX1
                  clear hal2 hb2 hjg hx1 hy1 hbB1 hys1 hp1 hp2 hp3 hp4 hX1
                  cases p1 with
                  | false =>
                    clear g2 g3 g4
                    obtain rfl : false = q := HNO.out (mayNs_at HJ1.out (by rw [HAN.out]; rfl))
                    go_wp2_with (first
                      | (refine wpList_store_row rfl _ _ _ rfl wr.heap.size #[.string x1, .string y1, .string z1] rfl rfl 41 #[.string ⟨#[]⟩, .string ⟨#[]⟩, .string ⟨#[]⟩] (heap_alloc_new _ _) sizeAt3 rfl (oneAt3 _ _ _) ?_; rw [World.setRow_alloc_new, hW1])
                      | (go_at_call 52; (with_reducible refine (HP1.out _).mono ?_); rintro e3 w3 ⟨rfl, rfl⟩)
                      | fail)
                    go_ret
                    exact ⟨rfl, HBW.out.trans (HB1.out.mono HBW.out.size)⟩
                  | true =>
                    cases p2 with
                    | true =>
                      cases p3 with
                      | true =>
                        obtain rfl : false = q := HNO.out (mayNs_at HJ1.out (by rw [HAN.out]; rfl))
                        go_wp2_with (first
                          | (refine wpList_store_row rfl _ _ _ rfl wr.heap.size #[.string x1, .string y1, .string z1] rfl rfl 41 #[.string ⟨#[]⟩, .string ⟨#[]⟩, .string ⟨#[]⟩] (heap_alloc_new _ _) sizeAt3 rfl (oneAt3 _ _ _) ?_; rw [World.setRow_alloc_new, hW1])
                          | (go_at_call 52; (with_reducible refine (HP1.out _).mono ?_); rintro e3 w3 ⟨rfl, rfl⟩)
                          | fail)
                        go_ret
                        exact ⟨rfl, HBW.out.trans (HB1.out.mono HBW.out.size)⟩
                      | false =>
                        cases p4 with
                        | true =>
                          obtain rfl : false = q := HNO.out (mayNs_at HJ1.out (by rw [HAN.out]; rfl))
                          go_wp2_with (first
                            | (refine wpList_store_row rfl _ _ _ rfl wr.heap.size #[.string x1, .string y1, .string z1] rfl rfl 41 #[.string ⟨#[]⟩, .string ⟨#[]⟩, .string ⟨#[]⟩] (heap_alloc_new _ _) sizeAt3 rfl (oneAt3 _ _ _) ?_; rw [World.setRow_alloc_new, hW1])
                            | (go_at_call 52; (with_reducible refine (HP1.out _).mono ?_); rintro e3 w3 ⟨rfl, rfl⟩)
                            | fail)
                          go_ret
                          exact ⟨rfl, HBW.out.trans (HB1.out.mono HBW.out.size)⟩
                        | false =>
                          have HT : Hid ((nd.attrs.take (j + 1)).all mayAn = true) := Lib.hid (all_next HJ1.out HAL2.out (by rw [HAN.out]; rfl))
                          go_wp2_with (first
                            | (refine wpList_store_row rfl _ _ _ rfl wr.heap.size #[.string x1, .string y1, .string z1] rfl rfl 41 #[.string ⟨#[]⟩, .string ⟨#[]⟩, .string ⟨#[]⟩] (heap_alloc_new _ _) sizeAt3 rfl (oneAt3 _ _ _) ?_; rw [World.setRow_alloc_new, hW1])
                            | (go_at_call 52; (with_reducible refine (HP1.out _).mono ?_); rintro e3 w3 ⟨rfl, rfl⟩)
                            | fail)
                          go_roundg (gk - 1)
                          case rel => exact ⟨j + 1, by have := HJG.out; omega, by go_num, HT.out, HB1.out⟩
                          case measure => have := HJG.out; omega
                    | false =>
                      cases p4 with
                      | true =>
                        obtain rfl : false = q := HNO.out (mayNs_at HJ1.out (by rw [HAN.out]; rfl))
                        go_wp2_with (first
                          | (refine wpList_store_row rfl _ _ _ rfl wr.heap.size #[.string x1, .string y1, .string z1] rfl rfl 41 #[.string ⟨#[]⟩, .string ⟨#[]⟩, .string ⟨#[]⟩] (heap_alloc_new _ _) sizeAt3 rfl (oneAt3 _ _ _) ?_; rw [World.setRow_alloc_new, hW1])
                          | (go_at_call 52; (with_reducible refine (HP1.out _).mono ?_); rintro e3 w3 ⟨rfl, rfl⟩)
                          | fail)
                        go_ret
                        exact ⟨rfl, HBW.out.trans (HB1.out.mono HBW.out.size)⟩
                      | false =>
                        have HT : Hid ((nd.attrs.take (j + 1)).all mayAn = true) := Lib.hid (all_next HJ1.out HAL2.out (by rw [HAN.out]; rfl))
                        go_wp2_with (first
                          | (refine wpList_store_row rfl _ _ _ rfl wr.heap.size #[.string x1, .string y1, .string z1] rfl rfl 41 #[.string ⟨#[]⟩, .string ⟨#[]⟩, .string ⟨#[]⟩] (heap_alloc_new _ _) sizeAt3 rfl (oneAt3 _ _ _) ?_; rw [World.setRow_alloc_new, hW1])
                          | (go_at_call 52; (with_reducible refine (HP1.out _).mono ?_); rintro e3 w3 ⟨rfl, rfl⟩)
                          | fail)
                        go_roundg (gk - 1)
                        case rel => exact ⟨j + 1, by have := HJG.out; omega, by go_num, HT.out, HB1.out⟩
                        case measure => have := HJG.out; omega
                · obtain rfl : j = n1 := by have := HJG.out; omega
                  have HT := Lib.hid (HYES.out (by
                    rw [mayNs_eq, HHT.out]
                    rw [← HN1.out, List.take_length] at hal2
                    rw [hal2]
                    rfl))
                  have HE := Lib.hid (HBW.out.trans (hb2.mono HBW.out.size))
                  have hjj : ¬ ((j : Int) < (j : Int)) := by omega
                  clear hal2 hb2 hjg
                  go_wp2_with fail
                  go_roundg (g0 - 1)
                  case rel => exact ⟨k + 1, by have := HG.out; have := HLT.out; omega, by go_num, HT.out, HE.out⟩
                  case measure => have := HG.out; have := HLT.out; omega
      | false =>
        cases q3 with
        | true =>
          obtain rfl : false = q := HNO.out (mayNs_hd (by rw [HHD.out]; cases a2 <;> rfl))
          go_wp2_with fail
          go_ret
          exact ⟨rfl, HBW.out⟩
        | false =>
          cases q4 with
          | true =>
            obtain rfl : false = q := HNO.out (mayNs_hd (by rw [HHD.out]; cases a2 <;> rfl))
            go_wp2_with fail
            go_ret
            exact ⟨rfl, HBW.out⟩
          | false =>
            have HHT : Hid (mayHd nd = true) := Lib.hid (by rw [HHD.out]; cases a2 <;> rfl)
            go_wp2_with fail
            go_loopg [4] n1 (fun gg i wi => ∃ j : Nat, j + gg = n1 ∧ i = .int .i64 j ∧ (nd.attrs.take j).all mayAn = true ∧ Below wo.heap.size wo wi)
            case atStart => exact ⟨0, by omega, rfl, rfl, Below.refl _ _⟩
            case round =>
              obtain ⟨j, hjg, rfl, hal2, hb2⟩ := hrel
              have HAL2 := Lib.hid hal2
              have HB2 := Lib.hid hb2
              have HJG := Lib.hid hjg
              have r3 := (hb2.cell (p := ⟨b0, _, none⟩) HBB.out).trans c3; clear c0 c1' c2
              by_cases hlj : j < n1
              · have hj1 : j < nd.attrs.length := by rw [HN1.out]; exact hlj
                obtain ⟨b1, of1, x1, y1, z1, rfl, hbB1, hx1, hy1, -, d0, d1, d2⟩ := at_at (RdB.on (w := wo) HAR.out hb2) hj1
                have bj : (0 : Int) ≤ (j : Int) ∧ (j : Int) < (n1 : Int) := by omega
                have hys1 : y1.size ≤ 1000000 := by
                  have := (HEA.out _ (List.getElem_mem hj1)).2.1
                  rw [← hy1, ba_l] at this
                  exact this
                obtain ⟨p1, hp1⟩ : ∃ p1, nameL y1.data.toList = p1 := ⟨_, rfl⟩
                have HP1 : Hid (∀ W, Calls Tryz.prog 52 #[.string y1] W fun e w' => e = .returned (.bool p1) ∧ W = w') := Lib.hid fun W => rname9 y1 W hys1 p1 hp1
                obtain ⟨p2, hp2⟩ : ∃ p2, decide (x1.data.toList = []) = p2 := ⟨_, rfl⟩
                obtain ⟨p3, hp3⟩ : ∃ p3, decide (y1.data.toList = xmlns5) = p3 := ⟨_, rfl⟩
                obtain ⟨p4, hp4⟩ : ∃ p4, decide (x1.data.toList = ofXmlns) = p4 := ⟨_, rfl⟩
                have g2 : x1.toList.isEmpty = p2 := by
                  rw [em_lR, ← hp2]
                  cases x1.data.toList <;> rfl
                have g3 := eq_lit y1 xmlns5 p3 hp3
                have g4 := eq_lit x1 ofXmlns p4 hp4
                unfold xmlns5 at g3
                unfold ofXmlns at g4
                have HAN : Hid (mayAn (nd.attrs[j]'hj1) = (p1 && !(p2 && p3) && !p4)) := Lib.hid (by
                  unfold mayAn
                  rw [← hx1, ← hy1, hp1, hp2, hp3, ← hp4]
                  simp)
                have HJ1 := Lib.hid hj1
                obtain ⟨W1, hW1⟩ : ∃ W1, wr.alloc (.cells #[.string x1, .string y1, .string z1] 41) = W1 := ⟨_, rfl⟩
                have HB1 : Hid (Below wo.heap.size wo W1) := Lib.hid (by rw [← hW1]; exact stpA HB2.out _)
                have hX1 : W1.heap[wr.heap.size]? = some (.cells #[.string x1, .string y1, .string z1] 41 (0, 0)) := by rw [← hW1]; exact heap_alloc_new wr _
                have k0 := cellV W1 _ 0 _ _ _ hX1
                have k1 := cellV W1 _ 1 _ _ _ hX1
                clear hal2 hb2 hjg hx1 hy1 hbB1 hys1 hp1 hp2 hp3 hp4 hX1
                cases p1 with
                | false =>
                  clear g2 g3 g4
                  obtain rfl : false = q := HNO.out (mayNs_at HJ1.out (by rw [HAN.out]; rfl))
                  go_wp2_with (first
                    | (refine wpList_store_row rfl _ _ _ rfl wr.heap.size #[.string x1, .string y1, .string z1] rfl rfl 41 #[.string ⟨#[]⟩, .string ⟨#[]⟩, .string ⟨#[]⟩] (heap_alloc_new _ _) sizeAt3 rfl (oneAt3 _ _ _) ?_; rw [World.setRow_alloc_new, hW1])
                    | (go_at_call 52; (with_reducible refine (HP1.out _).mono ?_); rintro e3 w3 ⟨rfl, rfl⟩)
                    | fail)
                  go_ret
                  exact ⟨rfl, HBW.out.trans (HB1.out.mono HBW.out.size)⟩
                | true =>
                  cases p2 with
                  | true =>
                    cases p3 with
                    | true =>
                      obtain rfl : false = q := HNO.out (mayNs_at HJ1.out (by rw [HAN.out]; rfl))
                      go_wp2_with (first
                        | (refine wpList_store_row rfl _ _ _ rfl wr.heap.size #[.string x1, .string y1, .string z1] rfl rfl 41 #[.string ⟨#[]⟩, .string ⟨#[]⟩, .string ⟨#[]⟩] (heap_alloc_new _ _) sizeAt3 rfl (oneAt3 _ _ _) ?_; rw [World.setRow_alloc_new, hW1])
                        | (go_at_call 52; (with_reducible refine (HP1.out _).mono ?_); rintro e3 w3 ⟨rfl, rfl⟩)
                        | fail)
                      go_ret
                      exact ⟨rfl, HBW.out.trans (HB1.out.mono HBW.out.size)⟩
                    | false =>
                      cases p4 with
                      | true =>
                        obtain rfl : false = q := HNO.out (mayNs_at HJ1.out (by rw [HAN.out]; rfl))
                        go_wp2_with (first
                          | (refine wpList_store_row rfl _ _ _ rfl wr.heap.size #[.string x1, .string y1, .string z1] rfl rfl 41 #[.string ⟨#[]⟩, .string ⟨#[]⟩, .string ⟨#[]⟩] (heap_alloc_new _ _) sizeAt3 rfl (oneAt3 _ _ _) ?_; rw [World.setRow_alloc_new, hW1])
                          | (go_at_call 52; (with_reducible refine (HP1.out _).mono ?_); rintro e3 w3 ⟨rfl, rfl⟩)
                          | fail)
                        go_ret
                        exact ⟨rfl, HBW.out.trans (HB1.out.mono HBW.out.size)⟩
                      | false =>
                        have HT : Hid ((nd.attrs.take (j + 1)).all mayAn = true) := Lib.hid (all_next HJ1.out HAL2.out (by rw [HAN.out]; rfl))
                        go_wp2_with (first
                          | (refine wpList_store_row rfl _ _ _ rfl wr.heap.size #[.string x1, .string y1, .string z1] rfl rfl 41 #[.string ⟨#[]⟩, .string ⟨#[]⟩, .string ⟨#[]⟩] (heap_alloc_new _ _) sizeAt3 rfl (oneAt3 _ _ _) ?_; rw [World.setRow_alloc_new, hW1])
                          | (go_at_call 52; (with_reducible refine (HP1.out _).mono ?_); rintro e3 w3 ⟨rfl, rfl⟩)
                          | fail)
                        go_roundg (gk - 1)
                        case rel => exact ⟨j + 1, by have := HJG.out; omega, by go_num, HT.out, HB1.out⟩
                        case measure => have := HJG.out; omega
                  | false =>
                    cases p4 with
                    | true =>
                      obtain rfl : false = q := HNO.out (mayNs_at HJ1.out (by rw [HAN.out]; rfl))
                      go_wp2_with (first
                        | (refine wpList_store_row rfl _ _ _ rfl wr.heap.size #[.string x1, .string y1, .string z1] rfl rfl 41 #[.string ⟨#[]⟩, .string ⟨#[]⟩, .string ⟨#[]⟩] (heap_alloc_new _ _) sizeAt3 rfl (oneAt3 _ _ _) ?_; rw [World.setRow_alloc_new, hW1])
                        | (go_at_call 52; (with_reducible refine (HP1.out _).mono ?_); rintro e3 w3 ⟨rfl, rfl⟩)
                        | fail)
                      go_ret
                      exact ⟨rfl, HBW.out.trans (HB1.out.mono HBW.out.size)⟩
                    | false =>
                      have HT : Hid ((nd.attrs.take (j + 1)).all mayAn = true) := Lib.hid (all_next HJ1.out HAL2.out (by rw [HAN.out]; rfl))
                      go_wp2_with (first
                        | (refine wpList_store_row rfl _ _ _ rfl wr.heap.size #[.string x1, .string y1, .string z1] rfl rfl 41 #[.string ⟨#[]⟩, .string ⟨#[]⟩, .string ⟨#[]⟩] (heap_alloc_new _ _) sizeAt3 rfl (oneAt3 _ _ _) ?_; rw [World.setRow_alloc_new, hW1])
                        | (go_at_call 52; (with_reducible refine (HP1.out _).mono ?_); rintro e3 w3 ⟨rfl, rfl⟩)
                        | fail)
                      go_roundg (gk - 1)
                      case rel => exact ⟨j + 1, by have := HJG.out; omega, by go_num, HT.out, HB1.out⟩
                      case measure => have := HJG.out; omega
              · obtain rfl : j = n1 := by have := HJG.out; omega
                have HT := Lib.hid (HYES.out (by
                  rw [mayNs_eq, HHT.out]
                  rw [← HN1.out, List.take_length] at hal2
                  rw [hal2]
                  rfl))
                have HE := Lib.hid (HBW.out.trans (hb2.mono HBW.out.size))
                have hjj : ¬ ((j : Int) < (j : Int)) := by omega
                clear hal2 hb2 hjg
                go_wp2_with fail
                go_roundg (g0 - 1)
                case rel => exact ⟨k + 1, by have := HG.out; have := HLT.out; omega, by go_num, HT.out, HE.out⟩
                case measure => have := HG.out; have := HLT.out; omega
    · obtain rfl : k = n := by omega
      have hjj : ¬ ((k : Int) < (k : Int)) := by omega
      have hall2 := HALL.out
      rw [List.take_of_length_le (by rw [HN.out]; exact Nat.le_refl _)] at hall2
      have HC : Hid (∀ W, Below w.heap.size w W → Calls Tryz.prog 22 #[.slice A k c] W fun e w' => e = .returned (.bool q) ∧ Below W.heap.size W w') := Lib.hid fun W hW => rmay10 A k c v W (HR.out.on hW) HN.out (by omega) (fun _ => HSM.out) q (by
        rw [← HH.out]
        unfold mayS
        rw [hall2]; rfl)
      clear hall hall2 hbw hkg
      go_wp2_with (first
        | (go_at_call 22; (with_reducible refine (HC.out _ HBW.out).mono ?_); rintro e2 w2 ⟨rfl, hb2⟩; have HB2 := Lib.hid (stp HBW.out hb2); clear hb2)
        | fail)
      go_ret
      exact ⟨rfl, HB2.out⟩
theorem rcheck11 (A : Option Addr) (n c : Nat) (v : List Nd) (w : World) (hr : RdB NdS w A v) (hn : v.length = n) (hm : n ≤ 1000000) (hsm : ∀ x ∈ v, SmallN x) :
    Calls Tryz.prog 12 #[.slice A n c] w fun e w' => e = .returned (.int .i64 (checkS v)) ∧ Below w.heap.size w w' := by
  obtain ⟨q, hq⟩ : ∃ q, mayS v = q := ⟨_, rfl⟩
  have HC : Hid (∀ W, Below w.heap.size w W → Calls Tryz.prog 28 #[.slice A n c] W fun e w' => e = .returned (.bool q) ∧ Below W.heap.size W w') := Lib.hid fun W hW => rmay11 A n c v W (hr.on hW) hn hm hsm q hq
  have HQ : Hid (checkS v = if q = true then 0 else 8) := Lib.hid (by unfold checkS; rw [hq])
  clear hr hn hsm hq
  cases q with
  | true =>
    rw [HQ.out]
    go_enter Tryz.func12, Tryz.ntmps12
    go_wp2_with (first
      | (go_at_call 28; (with_reducible refine (HC.out _ (Below.refl _ _)).mono ?_); rintro e2 w2 ⟨rfl, hb2⟩)
      | fail)
    go_ret
    exact ⟨rfl, hb2⟩
  | false =>
    rw [HQ.out]
    go_enter Tryz.func12, Tryz.ntmps12
    go_wp2_with (first
      | (go_at_call 28; (with_reducible refine (HC.out _ (Below.refl _ _)).mono ?_); rintro e2 w2 ⟨rfl, hb2⟩)
      | fail)
    go_ret
    exact ⟨rfl, hb2⟩
end Hx
end Go.Proofs.YteobcohjikjalaaGreatDoor
