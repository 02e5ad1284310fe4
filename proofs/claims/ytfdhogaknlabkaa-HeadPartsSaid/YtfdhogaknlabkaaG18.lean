/-
  Texts of one seat, put together: HedR, HedS, HedT.
-/
import Derived.Test.YtfdhogaknlabkaaG17
import Derived.Test.YtfdhogaknlabkaaG14
import Derived.Deep.AppendLies
import Derived.Deep.RegionHeld3
set_option linter.unusedSimpArgs false
set_option linter.unusedVariables false
namespace Go.Proofs.Ytfdhogaknlabkaa
open Go.RowKit
namespace Hx
open Lx Hd
set_option linter.unusedVariables false
theorem closeL : (⟨#[99, 108, 111, 115, 101]⟩ : ByteArray).toList = [99, 108, 111, 115, 101] := by rw [ByteArray.toList_eq]
theorem chunkL : (⟨#[99, 104, 117, 110, 107, 101, 100]⟩ : ByteArray).toList = [99, 104, 117, 110, 107, 101, 100] := by rw [ByteArray.toList_eq]
theorem memB_next {x : ByteArray} {l : List ByteArray} {k : Nat} (h : k < l.length) : memB x (l.take (k + 1)) = (memB x (l.take k) || decide (x = l[k]'h)) := by
  unfold memB
  rw [List.take_succ_eq_append_getElem h, List.any_append]
  simp
set_option maxHeartbeats 8000000 in
set_option maxRecDepth 100000 in
theorem rkeep14 (A : Option Addr) (n cp : Nat) (ps : List Pr) (w : World) (hr : RdC PrC w w.heap.size A ps) (hn : ps.length = n) (hm : n ≤ 1000) (hs : SmP ps) (b : Bool) (q : Int) (h : keepH ps = (b, q)) : Calls Try.prog 27 #[.slice A n cp] w fun e w' => e = .returned (.tuple #[.bool b, .int .i64 q]) ∧ Below w.heap.size w w' := by
  obtain ⟨vs, hvs⟩ : ∃ vs, findH ps nConn = vs := ⟨_, rfl⟩
  have hvl : vs.length ≤ 1000 := by rw [← hvs]; have := find_len ps nConn; omega
  have HVM : Hid (∀ v ∈ vs, v.length ≤ 20000) := Lib.hid fun v hv => find_mem (by rw [hvs]; exact hv) hs
  have HF : Hid (Calls Try.prog 31 #[.slice A n cp, .string ⟨#[99, 111, 110, 110, 101, 99, 116, 105, 111, 110]⟩] w fun e w' => Below w.heap.size w w' ∧ ∃ A c, e = .returned (.slice A vs.length c) ∧ (A = none → c = 0) ∧ RdG encS w' w'.heap.size A (vs.map mkB)) := Lib.hid (by
    have := rfind14 A n cp ps ⟨#[99, 111, 110, 110, 101, 99, 116, 105, 111, 110]⟩ w hr hn hm hs (by decide)
    unfold FindTo at this
    rw [nm2, hvs] at this
    exact this)
  unfold keepH at h
  rw [hvs] at h
  have HQ := Lib.hid h
  obtain ⟨m, hmm⟩ : ∃ m, vs.length = m := ⟨_, rfl⟩
  rw [hmm] at HF hvl
  have HMM := Lib.hid hmm
  have HML := Lib.hid hvl
  clear hr hn hm hs h hvs hmm hvl
  go_enter Try.func27, Try.ntmps27
  go_wp2_with (first
    | (go_at_call 31; (with_reducible refine (HF.out).mono ?_); rintro e w2 ⟨hb2, A2, c2, rfl, _, hr2⟩; have HR2 := Lib.hid hr2; have HB2 := Lib.hid hb2; clear hb2 hr2)
    | fail)
  go_loopg [5, 6] m (fun gg kp i wr => ∃ (k : Nat) (kb : Bool), k + gg = m ∧ i = .int .i64 k ∧ kp = .bool kb ∧ (vs.take k).all (fun v => decide (As.listE v = 0)) = true ∧ (vs.take k).all goesOn = kb ∧ Below w2.heap.size w2 wr)
  case atStart => exact ⟨0, true, by omega, rfl, rfl, rfl, rfl, Below.refl _ _⟩
  case round =>
    obtain ⟨k, kb, hk, rfl, rfl, hall, hgo, hbw⟩ := hrel
    obtain ⟨ww, rfl⟩ : ∃ ww : World, ww = wr := ⟨_, rfl⟩
    obtain ⟨GK, rfl⟩ : ∃ GK : Nat, GK = gk := ⟨_, rfl⟩
    have HBW := Lib.hid hbw
    have hkb : (k : Int) ≤ 1000 := by have := HML.out; omega
    by_cases hlt : k < m
    · have hk1 : k < vs.length := by rw [HMM.out]; exact hlt
      have hk2 : k < (vs.map mkB).length := by rw [List.length_map]; exact hk1
      obtain ⟨b0, o0, rfl, hbB, c0⟩ := st_at (HR2.out.on hbw) hk2
      rw [List.getElem_map] at c0
      obtain ⟨v, hv⟩ : ∃ v, vs[k]'hk1 = v := ⟨_, rfl⟩
      obtain ⟨x, hx⟩ : ∃ x, mkB v = x := ⟨_, rfl⟩
      have hxl : x.data.toList = v := by rw [← hx]; rfl
      rw [hv, hx] at c0
      have hxs : x.size ≤ 1000000 := by rw [← ba_l, hxl]; have := HVM.out v (by rw [← hv]; exact List.getElem_mem hk1); omega
      have bk : (0 : Int) ≤ (k : Int) ∧ (k : Int) < (m : Int) := by omega
      obtain ⟨z, hz⟩ : ∃ z : Int, (As.listE x.data.toList : Int) = z := ⟨_, rfl⟩
      obtain ⟨wl, hwl⟩ : ∃ wl, listS x = wl := ⟨_, rfl⟩
      obtain ⟨wn, hwn⟩ : ∃ wn, wl.length = wn := ⟨_, rfl⟩
      have HRD : Hid (∀ W, Calls Try.prog 46 #[.string x] W fun e w' => Below W.heap.size W w' ∧ ∃ A c, e = .returned (.tuple #[.slice A wn c, .int .i64 z]) ∧ RdG encS w' w'.heap.size A wl) := Lib.hid fun W => (rlist7 x wl wn z W hxs hwl hwn hz).mono fun e w' ⟨k1, A, c, k2, _, k3⟩ => ⟨k1, A, c, k2, k3⟩
      by_cases hz0 : z = 0
      · subst hz0
        have he0 : As.listE x.data.toList = 0 := by omega
        have hwm : memB ⟨#[99, 108, 111, 115, 101]⟩ wl = (As.parts v).contains nClose := by
          rw [← hwl]
          unfold listS
          rw [if_pos he0, mem_close, hxl]
        have hwz : wn ≤ 1000000 := by
          rw [← hwn, ← hwl]
          unfold listS
          rw [if_pos he0, List.length_map]
          have := (As.listE_ok he0).1
          omega
        have HAN : Hid ((vs.take (k + 1)).all (fun v => decide (As.listE v = 0)) = true) := Lib.hid (by
          rw [List.take_succ_eq_append_getElem hk1, List.all_append, hall, hv, ← hxl]
          simp [he0])
        have HGN : Hid ((vs.take (k + 1)).all goesOn = (kb && !memB ⟨#[99, 108, 111, 115, 101]⟩ wl)) := Lib.hid (by
          rw [List.take_succ_eq_append_getElem hk1, List.all_append, hgo, hv, hwm]
          simp [goesOn])
        have HWN := Lib.hid hwn
        have HWZ := Lib.hid hwz
        clear hall hgo hbw hk1 hk2 hv hx hxl hxs hz hwl hwn he0 hwm hwz
        go_wp2_with (first
    | (go_at_call 46; (with_reducible refine (HRD.out _).mono ?_); rintro e w3 ⟨hb3, A3, c3, rfl, hr3⟩; have HR3 := Lib.hid hr3; have HB3 := Lib.hid (stp HBW.out hb3); clear hb3 hr3)
          | fail)
        go_loopg [5, 9] wn (fun gg kp i wr => ∃ (j : Nat), j + gg = wn ∧ i = .int .i64 j ∧ kp = .bool (kb && !memB ⟨#[99, 108, 111, 115, 101]⟩ (wl.take j)) ∧ Below w3.heap.size w3 wr)
        case atStart => exact ⟨0, by omega, rfl, by simp [memB], Below.refl _ _⟩
        case round =>
          obtain ⟨j, hj, rfl, rfl, hbi⟩ := hrel
          have HBI := Lib.hid hbi
          have hjb : (j : Int) ≤ 1000000 := by have := HWZ.out; omega
          by_cases hlj : j < wn
          · have hj1 : j < wl.length := by rw [HWN.out]; exact hlj
            obtain ⟨b4, o4, rfl, hb4, c4⟩ := st_at (HR3.out.on hbi) hj1
            have bj : (0 : Int) ≤ (j : Int) ∧ (j : Int) < (wn : Int) := by omega
            have hmn := memB_next (x := ⟨#[99, 108, 111, 115, 101]⟩) hj1
            obtain ⟨y, hy⟩ : ∃ y, wl[j]'hj1 = y := ⟨_, rfl⟩
            rw [hy] at c4 hmn
            obtain ⟨cur, hcur⟩ : ∃ cur, (kb && !memB ⟨#[99, 108, 111, 115, 101]⟩ (wl.take j)) = cur := ⟨_, rfl⟩
            obtain ⟨ne, hne⟩ : ∃ ne, (y.toList != (⟨#[99, 108, 111, 115, 101]⟩ : ByteArray).toList) = ne := ⟨_, rfl⟩
            have hne2 : ne = !decide ((⟨#[99, 108, 111, 115, 101]⟩ : ByteArray) = y) := by
              rw [← hne, bne, seqS]
              congr 1
              exact decide_eq_decide.2 eq_comm
            have HNX : Hid ((cur && ne) = (kb && !memB ⟨#[99, 108, 111, 115, 101]⟩ (wl.take (j + 1)))) := Lib.hid (by
              rw [← hcur, hne2, hmn]
              cases kb <;> simp)
            cases cur with
            | false =>
              clear hbi hj1 hmn hy hne hne2
              rw [hcur]
              go_wp2_with fail
              go_roundg (gk - 1)
              case rel => exact ⟨j + 1, by omega, by go_num, by rw [← HNX.out]; rfl, HBI.out⟩
              case measure => omega
            | true =>
              clear hbi hj1 hmn hy hne2
              rw [hcur]
              go_wp2_with fail
              go_roundg (gk - 1)
              case rel => exact ⟨j + 1, by omega, by go_num, by rw [← HNX.out, ← hne, closeL]; rfl, HBI.out⟩
              case measure => omega
          · obtain rfl : j = wn := by omega
            have hd : decide ((j : Int) < (j : Int)) = false := by simp
            have HTK : Hid (wl.take j = wl) := Lib.hid (List.take_of_length_le (by rw [HWN.out]; exact Nat.le_refl _))
            clear hbi
            go_wp2_with fail
            go_roundg (GK - 1)
            case rel => exact ⟨k + 1, _, by omega, by go_num, rfl, HAN.out, by rw [HTK.out]; exact HGN.out, stp HB3.out HBI.out⟩
            case measure => omega
      · have e0 : ((z : Int) != 0) = true := by simpa using hz0
        have hbad : vs.all (fun v => decide (As.listE v = 0)) = false := by
          rw [List.all_eq_false]
          refine ⟨v, by rw [← hv]; exact List.getElem_mem hk1, ?_⟩
          rw [← hxl]
          simp only [decide_eq_true_eq]
          omega
        have hq := HQ.out
        rw [if_neg (by rw [hbad]; simp)] at hq
        obtain ⟨rfl, rfl⟩ := (Prod.mk.injEq _ _ _ _).mp hq
        clear hall hgo hbw hk1 hk2 hv hx hxl hxs hz hwl hwn hbad hq hz0
        go_wp2_with (first
    | (go_at_call 46; (with_reducible refine (HRD.out _).mono ?_); rintro e w3 ⟨hb3, A3, c3, rfl, hr3⟩; have HB3 := Lib.hid (stp HBW.out hb3); clear hb3 hr3)
          | fail)
        go_ret2
        exact ⟨rfl, stp HB2.out HB3.out⟩
    · obtain rfl : k = m := by omega
      have hd : decide ((k : Int) < (k : Int)) = false := by simp
      rw [List.take_of_length_le (by rw [HMM.out]; exact Nat.le_refl _)] at hall hgo
      have hq := HQ.out
      rw [if_pos hall, hgo] at hq
      obtain ⟨rfl, rfl⟩ := (Prod.mk.injEq _ _ _ _).mp hq
      clear hall hgo hbw hq
      go_wp2_with fail
      go_ret2
      exact ⟨rfl, stp HB2.out HBW.out⟩
set_option maxHeartbeats 8000000 in
set_option maxRecDepth 100000 in
theorem rfr_e0_t0 (A : Option Addr) (n cp : Nat) (ps : List Pr) (w : World) (hr : RdC PrC w w.heap.size A ps) (hn : ps.length = n) (hm : n ≤ 1000) (hs : SmP ps) (v0 v1 : ByteArray) (h0 : oneH ps nCoding = (v0.data.toList, false, 140)) (h1 : oneH ps nLength = (v1.data.toList, true, 0))  : Calls Try.prog 26 #[.slice A n cp] w fun e w' => e = .returned (.tuple #[.int .u8 0, .int .i64 0, .int .i64 140]) ∧ Below w.heap.size w w' := by
  have H0 : Hid (Calls Try.prog 24 #[.slice A n cp, .string ⟨#[116, 114, 97, 110, 115, 102, 101, 114, 45, 101, 110, 99, 111, 100, 105, 110, 103]⟩] w fun e w' => e = .returned (.tuple #[.string v0, .bool false, .int .i64 140]) ∧ Below w.heap.size w w') := Lib.hid (rone14 A n cp ps ⟨#[116, 114, 97, 110, 115, 102, 101, 114, 45, 101, 110, 99, 111, 100, 105, 110, 103]⟩ w hr hn hm hs (by decide) v0 false 140 h0)
  have H1 : Hid (∀ W, Below w.heap.size w W → Calls Try.prog 24 #[.slice A n cp, .string ⟨#[99, 111, 110, 116, 101, 110, 116, 45, 108, 101, 110, 103, 116, 104]⟩] W fun e w' => e = .returned (.tuple #[.string v1, .bool true, .int .i64 0]) ∧ Below W.heap.size W w') := Lib.hid fun W hW => rone14 A n cp ps ⟨#[99, 111, 110, 116, 101, 110, 116, 45, 108, 101, 110, 103, 116, 104]⟩ W (hr.on hW) hn hm hs (by decide) v1 true 0 h1
  clear hr hn hm hs h0 h1
  go_enter Try.func26, Try.ntmps26
  go_wp2_with (first
    | (go_at_call 24; (with_reducible refine (H0.out).mono ?_); rintro e w1 ⟨rfl, hb1⟩; have HB1 := Lib.hid hb1; clear hb1)
    | (go_at_call 24; (with_reducible refine (H1.out w1 HB1.out).mono ?_); rintro e w2 ⟨rfl, hb2⟩; have HB2 := Lib.hid (stp HB1.out hb2); clear hb2)
    | fail)
  go_ret3
  exact ⟨rfl, HB2.out⟩
set_option maxHeartbeats 8000000 in
set_option maxRecDepth 100000 in
theorem rfr_e0_f0 (A : Option Addr) (n cp : Nat) (ps : List Pr) (w : World) (hr : RdC PrC w w.heap.size A ps) (hn : ps.length = n) (hm : n ≤ 1000) (hs : SmP ps) (v0 v1 : ByteArray) (h0 : oneH ps nCoding = (v0.data.toList, false, 140)) (h1 : oneH ps nLength = (v1.data.toList, false, 0))  : Calls Try.prog 26 #[.slice A n cp] w fun e w' => e = .returned (.tuple #[.int .u8 0, .int .i64 0, .int .i64 140]) ∧ Below w.heap.size w w' := by
  have H0 : Hid (Calls Try.prog 24 #[.slice A n cp, .string ⟨#[116, 114, 97, 110, 115, 102, 101, 114, 45, 101, 110, 99, 111, 100, 105, 110, 103]⟩] w fun e w' => e = .returned (.tuple #[.string v0, .bool false, .int .i64 140]) ∧ Below w.heap.size w w') := Lib.hid (rone14 A n cp ps ⟨#[116, 114, 97, 110, 115, 102, 101, 114, 45, 101, 110, 99, 111, 100, 105, 110, 103]⟩ w hr hn hm hs (by decide) v0 false 140 h0)
  have H1 : Hid (∀ W, Below w.heap.size w W → Calls Try.prog 24 #[.slice A n cp, .string ⟨#[99, 111, 110, 116, 101, 110, 116, 45, 108, 101, 110, 103, 116, 104]⟩] W fun e w' => e = .returned (.tuple #[.string v1, .bool false, .int .i64 0]) ∧ Below W.heap.size W w') := Lib.hid fun W hW => rone14 A n cp ps ⟨#[99, 111, 110, 116, 101, 110, 116, 45, 108, 101, 110, 103, 116, 104]⟩ W (hr.on hW) hn hm hs (by decide) v1 false 0 h1
  clear hr hn hm hs h0 h1
  go_enter Try.func26, Try.ntmps26
  go_wp2_with (first
    | (go_at_call 24; (with_reducible refine (H0.out).mono ?_); rintro e w1 ⟨rfl, hb1⟩; have HB1 := Lib.hid hb1; clear hb1)
    | (go_at_call 24; (with_reducible refine (H1.out w1 HB1.out).mono ?_); rintro e w2 ⟨rfl, hb2⟩; have HB2 := Lib.hid (stp HB1.out hb2); clear hb2)
    | fail)
  go_ret3
  exact ⟨rfl, HB2.out⟩
set_option maxHeartbeats 8000000 in
set_option maxRecDepth 100000 in
theorem rfr_e0_f140 (A : Option Addr) (n cp : Nat) (ps : List Pr) (w : World) (hr : RdC PrC w w.heap.size A ps) (hn : ps.length = n) (hm : n ≤ 1000) (hs : SmP ps) (v0 v1 : ByteArray) (h0 : oneH ps nCoding = (v0.data.toList, false, 140)) (h1 : oneH ps nLength = (v1.data.toList, false, 140))  : Calls Try.prog 26 #[.slice A n cp] w fun e w' => e = .returned (.tuple #[.int .u8 0, .int .i64 0, .int .i64 140]) ∧ Below w.heap.size w w' := by
  have H0 : Hid (Calls Try.prog 24 #[.slice A n cp, .string ⟨#[116, 114, 97, 110, 115, 102, 101, 114, 45, 101, 110, 99, 111, 100, 105, 110, 103]⟩] w fun e w' => e = .returned (.tuple #[.string v0, .bool false, .int .i64 140]) ∧ Below w.heap.size w w') := Lib.hid (rone14 A n cp ps ⟨#[116, 114, 97, 110, 115, 102, 101, 114, 45, 101, 110, 99, 111, 100, 105, 110, 103]⟩ w hr hn hm hs (by decide) v0 false 140 h0)
  have H1 : Hid (∀ W, Below w.heap.size w W → Calls Try.prog 24 #[.slice A n cp, .string ⟨#[99, 111, 110, 116, 101, 110, 116, 45, 108, 101, 110, 103, 116, 104]⟩] W fun e w' => e = .returned (.tuple #[.string v1, .bool false, .int .i64 140]) ∧ Below W.heap.size W w') := Lib.hid fun W hW => rone14 A n cp ps ⟨#[99, 111, 110, 116, 101, 110, 116, 45, 108, 101, 110, 103, 116, 104]⟩ W (hr.on hW) hn hm hs (by decide) v1 false 140 h1
  clear hr hn hm hs h0 h1
  go_enter Try.func26, Try.ntmps26
  go_wp2_with (first
    | (go_at_call 24; (with_reducible refine (H0.out).mono ?_); rintro e w1 ⟨rfl, hb1⟩; have HB1 := Lib.hid hb1; clear hb1)
    | (go_at_call 24; (with_reducible refine (H1.out w1 HB1.out).mono ?_); rintro e w2 ⟨rfl, hb2⟩; have HB2 := Lib.hid (stp HB1.out hb2); clear hb2)
    | fail)
  go_ret3
  exact ⟨rfl, HB2.out⟩
set_option maxHeartbeats 8000000 in
set_option maxRecDepth 100000 in
theorem rfr_e1_t (A : Option Addr) (n cp : Nat) (ps : List Pr) (w : World) (hr : RdC PrC w w.heap.size A ps) (hn : ps.length = n) (hm : n ≤ 1000) (hs : SmP ps) (v0 v1 : ByteArray) (h0 : oneH ps nCoding = (v0.data.toList, true, 0)) (h1 : oneH ps nLength = (v1.data.toList, false, 140))  : Calls Try.prog 26 #[.slice A n cp] w fun e w' => e = .returned (.tuple #[.int .u8 0, .int .i64 0, .int .i64 140]) ∧ Below w.heap.size w w' := by
  have H0 : Hid (Calls Try.prog 24 #[.slice A n cp, .string ⟨#[116, 114, 97, 110, 115, 102, 101, 114, 45, 101, 110, 99, 111, 100, 105, 110, 103]⟩] w fun e w' => e = .returned (.tuple #[.string v0, .bool true, .int .i64 0]) ∧ Below w.heap.size w w') := Lib.hid (rone14 A n cp ps ⟨#[116, 114, 97, 110, 115, 102, 101, 114, 45, 101, 110, 99, 111, 100, 105, 110, 103]⟩ w hr hn hm hs (by decide) v0 true 0 h0)
  have H1 : Hid (∀ W, Below w.heap.size w W → Calls Try.prog 24 #[.slice A n cp, .string ⟨#[99, 111, 110, 116, 101, 110, 116, 45, 108, 101, 110, 103, 116, 104]⟩] W fun e w' => e = .returned (.tuple #[.string v1, .bool false, .int .i64 140]) ∧ Below W.heap.size W w') := Lib.hid fun W hW => rone14 A n cp ps ⟨#[99, 111, 110, 116, 101, 110, 116, 45, 108, 101, 110, 103, 116, 104]⟩ W (hr.on hW) hn hm hs (by decide) v1 false 140 h1
  clear hr hn hm hs h0 h1
  go_enter Try.func26, Try.ntmps26
  go_wp2_with (first
    | (go_at_call 24; (with_reducible refine (H0.out).mono ?_); rintro e w1 ⟨rfl, hb1⟩; have HB1 := Lib.hid hb1; clear hb1)
    | (go_at_call 24; (with_reducible refine (H1.out w1 HB1.out).mono ?_); rintro e w2 ⟨rfl, hb2⟩; have HB2 := Lib.hid (stp HB1.out hb2); clear hb2)
    | fail)
  go_ret3
  exact ⟨rfl, HB2.out⟩
set_option maxHeartbeats 8000000 in
set_option maxRecDepth 100000 in
theorem rfr_e1_f (A : Option Addr) (n cp : Nat) (ps : List Pr) (w : World) (hr : RdC PrC w w.heap.size A ps) (hn : ps.length = n) (hm : n ≤ 1000) (hs : SmP ps) (v0 v1 : ByteArray) (h0 : oneH ps nCoding = (v0.data.toList, false, 0)) (h1 : oneH ps nLength = (v1.data.toList, false, 140))  : Calls Try.prog 26 #[.slice A n cp] w fun e w' => e = .returned (.tuple #[.int .u8 0, .int .i64 0, .int .i64 140]) ∧ Below w.heap.size w w' := by
  have H0 : Hid (Calls Try.prog 24 #[.slice A n cp, .string ⟨#[116, 114, 97, 110, 115, 102, 101, 114, 45, 101, 110, 99, 111, 100, 105, 110, 103]⟩] w fun e w' => e = .returned (.tuple #[.string v0, .bool false, .int .i64 0]) ∧ Below w.heap.size w w') := Lib.hid (rone14 A n cp ps ⟨#[116, 114, 97, 110, 115, 102, 101, 114, 45, 101, 110, 99, 111, 100, 105, 110, 103]⟩ w hr hn hm hs (by decide) v0 false 0 h0)
  have H1 : Hid (∀ W, Below w.heap.size w W → Calls Try.prog 24 #[.slice A n cp, .string ⟨#[99, 111, 110, 116, 101, 110, 116, 45, 108, 101, 110, 103, 116, 104]⟩] W fun e w' => e = .returned (.tuple #[.string v1, .bool false, .int .i64 140]) ∧ Below W.heap.size W w') := Lib.hid fun W hW => rone14 A n cp ps ⟨#[99, 111, 110, 116, 101, 110, 116, 45, 108, 101, 110, 103, 116, 104]⟩ W (hr.on hW) hn hm hs (by decide) v1 false 140 h1
  clear hr hn hm hs h0 h1
  go_enter Try.func26, Try.ntmps26
  go_wp2_with (first
    | (go_at_call 24; (with_reducible refine (H0.out).mono ?_); rintro e w1 ⟨rfl, hb1⟩; have HB1 := Lib.hid hb1; clear hb1)
    | (go_at_call 24; (with_reducible refine (H1.out w1 HB1.out).mono ?_); rintro e w2 ⟨rfl, hb2⟩; have HB2 := Lib.hid (stp HB1.out hb2); clear hb2)
    | fail)
  go_ret3
  exact ⟨rfl, HB2.out⟩
set_option maxHeartbeats 8000000 in
set_option maxRecDepth 100000 in
theorem rfr_both (A : Option Addr) (n cp : Nat) (ps : List Pr) (w : World) (hr : RdC PrC w w.heap.size A ps) (hn : ps.length = n) (hm : n ≤ 1000) (hs : SmP ps) (v0 v1 : ByteArray) (h0 : oneH ps nCoding = (v0.data.toList, true, 0)) (h1 : oneH ps nLength = (v1.data.toList, true, 0))  : Calls Try.prog 26 #[.slice A n cp] w fun e w' => e = .returned (.tuple #[.int .u8 0, .int .i64 0, .int .i64 140]) ∧ Below w.heap.size w w' := by
  have H0 : Hid (Calls Try.prog 24 #[.slice A n cp, .string ⟨#[116, 114, 97, 110, 115, 102, 101, 114, 45, 101, 110, 99, 111, 100, 105, 110, 103]⟩] w fun e w' => e = .returned (.tuple #[.string v0, .bool true, .int .i64 0]) ∧ Below w.heap.size w w') := Lib.hid (rone14 A n cp ps ⟨#[116, 114, 97, 110, 115, 102, 101, 114, 45, 101, 110, 99, 111, 100, 105, 110, 103]⟩ w hr hn hm hs (by decide) v0 true 0 h0)
  have H1 : Hid (∀ W, Below w.heap.size w W → Calls Try.prog 24 #[.slice A n cp, .string ⟨#[99, 111, 110, 116, 101, 110, 116, 45, 108, 101, 110, 103, 116, 104]⟩] W fun e w' => e = .returned (.tuple #[.string v1, .bool true, .int .i64 0]) ∧ Below W.heap.size W w') := Lib.hid fun W hW => rone14 A n cp ps ⟨#[99, 111, 110, 116, 101, 110, 116, 45, 108, 101, 110, 103, 116, 104]⟩ W (hr.on hW) hn hm hs (by decide) v1 true 0 h1
  clear hr hn hm hs h0 h1
  go_enter Try.func26, Try.ntmps26
  go_wp2_with (first
    | (go_at_call 24; (with_reducible refine (H0.out).mono ?_); rintro e w1 ⟨rfl, hb1⟩; have HB1 := Lib.hid hb1; clear hb1)
    | (go_at_call 24; (with_reducible refine (H1.out w1 HB1.out).mono ?_); rintro e w2 ⟨rfl, hb2⟩; have HB2 := Lib.hid (stp HB1.out hb2); clear hb2)
    | fail)
  go_ret3
  exact ⟨rfl, HB2.out⟩
set_option maxHeartbeats 8000000 in
set_option maxRecDepth 100000 in
theorem rfr_none (A : Option Addr) (n cp : Nat) (ps : List Pr) (w : World) (hr : RdC PrC w w.heap.size A ps) (hn : ps.length = n) (hm : n ≤ 1000) (hs : SmP ps) (v0 v1 : ByteArray) (h0 : oneH ps nCoding = (v0.data.toList, false, 0)) (h1 : oneH ps nLength = (v1.data.toList, false, 0))  : Calls Try.prog 26 #[.slice A n cp] w fun e w' => e = .returned (.tuple #[.int .u8 0, .int .i64 0, .int .i64 0]) ∧ Below w.heap.size w w' := by
  have H0 : Hid (Calls Try.prog 24 #[.slice A n cp, .string ⟨#[116, 114, 97, 110, 115, 102, 101, 114, 45, 101, 110, 99, 111, 100, 105, 110, 103]⟩] w fun e w' => e = .returned (.tuple #[.string v0, .bool false, .int .i64 0]) ∧ Below w.heap.size w w') := Lib.hid (rone14 A n cp ps ⟨#[116, 114, 97, 110, 115, 102, 101, 114, 45, 101, 110, 99, 111, 100, 105, 110, 103]⟩ w hr hn hm hs (by decide) v0 false 0 h0)
  have H1 : Hid (∀ W, Below w.heap.size w W → Calls Try.prog 24 #[.slice A n cp, .string ⟨#[99, 111, 110, 116, 101, 110, 116, 45, 108, 101, 110, 103, 116, 104]⟩] W fun e w' => e = .returned (.tuple #[.string v1, .bool false, .int .i64 0]) ∧ Below W.heap.size W w') := Lib.hid fun W hW => rone14 A n cp ps ⟨#[99, 111, 110, 116, 101, 110, 116, 45, 108, 101, 110, 103, 116, 104]⟩ W (hr.on hW) hn hm hs (by decide) v1 false 0 h1
  clear hr hn hm hs h0 h1
  go_enter Try.func26, Try.ntmps26
  go_wp2_with (first
    | (go_at_call 24; (with_reducible refine (H0.out).mono ?_); rintro e w1 ⟨rfl, hb1⟩; have HB1 := Lib.hid hb1; clear hb1)
    | (go_at_call 24; (with_reducible refine (H1.out w1 HB1.out).mono ?_); rintro e w2 ⟨rfl, hb2⟩; have HB2 := Lib.hid (stp HB1.out hb2); clear hb2)
    | fail)
  go_ret3
  exact ⟨rfl, HB2.out⟩
set_option maxHeartbeats 8000000 in
set_option maxRecDepth 100000 in
theorem rfr_len (A : Option Addr) (n cp : Nat) (ps : List Pr) (w : World) (hr : RdC PrC w w.heap.size A ps) (hn : ps.length = n) (hm : n ≤ 1000) (hs : SmP ps) (v0 v1 : ByteArray) (h0 : oneH ps nCoding = (v0.data.toList, false, 0)) (h1 : oneH ps nLength = (v1.data.toList, true, 0)) (m : Nat) (hrd : readR v1.data.toList = ((m : Int), 0)) : Calls Try.prog 26 #[.slice A n cp] w fun e w' => e = .returned (.tuple #[.int .u8 1, .int .i64 m, .int .i64 0]) ∧ Below w.heap.size w w' := by
  have H0 : Hid (Calls Try.prog 24 #[.slice A n cp, .string ⟨#[116, 114, 97, 110, 115, 102, 101, 114, 45, 101, 110, 99, 111, 100, 105, 110, 103]⟩] w fun e w' => e = .returned (.tuple #[.string v0, .bool false, .int .i64 0]) ∧ Below w.heap.size w w') := Lib.hid (rone14 A n cp ps ⟨#[116, 114, 97, 110, 115, 102, 101, 114, 45, 101, 110, 99, 111, 100, 105, 110, 103]⟩ w hr hn hm hs (by decide) v0 false 0 h0)
  have H1 : Hid (∀ W, Below w.heap.size w W → Calls Try.prog 24 #[.slice A n cp, .string ⟨#[99, 111, 110, 116, 101, 110, 116, 45, 108, 101, 110, 103, 116, 104]⟩] W fun e w' => e = .returned (.tuple #[.string v1, .bool true, .int .i64 0]) ∧ Below W.heap.size W w') := Lib.hid fun W hW => rone14 A n cp ps ⟨#[99, 111, 110, 116, 101, 110, 116, 45, 108, 101, 110, 103, 116, 104]⟩ W (hr.on hW) hn hm hs (by decide) v1 true 0 h1
  have HR : Hid (∀ W, Calls Try.prog 47 #[.string v1] W fun e w' => e = .returned (.tuple #[.int .i64 m, .int .i64 0]) ∧ Below W.heap.size W w') := Lib.hid fun W => rread6B v1 W m 0 hrd
  clear hr hn hm hs h0 h1 hrd
  go_enter Try.func26, Try.ntmps26
  go_wp2_with (first
    | (go_at_call 24; (with_reducible refine (H0.out).mono ?_); rintro e w1 ⟨rfl, hb1⟩; have HB1 := Lib.hid hb1; clear hb1)
    | (go_at_call 24; (with_reducible refine (H1.out w1 HB1.out).mono ?_); rintro e w2 ⟨rfl, hb2⟩; have HB2 := Lib.hid (stp HB1.out hb2); clear hb2)
    | (go_at_call 47; (with_reducible refine (HR.out _).mono ?_); rintro e w3 ⟨rfl, hb3⟩; have HB3 := Lib.hid (stp HB2.out hb3); clear hb3)
    | fail)
  go_ret3
  exact ⟨rfl, HB3.out⟩
set_option maxHeartbeats 8000000 in
set_option maxRecDepth 100000 in
theorem rfr_lenb (A : Option Addr) (n cp : Nat) (ps : List Pr) (w : World) (hr : RdC PrC w w.heap.size A ps) (hn : ps.length = n) (hm : n ≤ 1000) (hs : SmP ps) (v0 v1 : ByteArray) (h0 : oneH ps nCoding = (v0.data.toList, false, 0)) (h1 : oneH ps nLength = (v1.data.toList, true, 0)) (hrd : readR v1.data.toList = (0, 60)) : Calls Try.prog 26 #[.slice A n cp] w fun e w' => e = .returned (.tuple #[.int .u8 0, .int .i64 0, .int .i64 140]) ∧ Below w.heap.size w w' := by
  have H0 : Hid (Calls Try.prog 24 #[.slice A n cp, .string ⟨#[116, 114, 97, 110, 115, 102, 101, 114, 45, 101, 110, 99, 111, 100, 105, 110, 103]⟩] w fun e w' => e = .returned (.tuple #[.string v0, .bool false, .int .i64 0]) ∧ Below w.heap.size w w') := Lib.hid (rone14 A n cp ps ⟨#[116, 114, 97, 110, 115, 102, 101, 114, 45, 101, 110, 99, 111, 100, 105, 110, 103]⟩ w hr hn hm hs (by decide) v0 false 0 h0)
  have H1 : Hid (∀ W, Below w.heap.size w W → Calls Try.prog 24 #[.slice A n cp, .string ⟨#[99, 111, 110, 116, 101, 110, 116, 45, 108, 101, 110, 103, 116, 104]⟩] W fun e w' => e = .returned (.tuple #[.string v1, .bool true, .int .i64 0]) ∧ Below W.heap.size W w') := Lib.hid fun W hW => rone14 A n cp ps ⟨#[99, 111, 110, 116, 101, 110, 116, 45, 108, 101, 110, 103, 116, 104]⟩ W (hr.on hW) hn hm hs (by decide) v1 true 0 h1
  have HR : Hid (∀ W, Calls Try.prog 47 #[.string v1] W fun e w' => e = .returned (.tuple #[.int .i64 0, .int .i64 60]) ∧ Below W.heap.size W w') := Lib.hid fun W => rread6B v1 W 0 60 hrd
  clear hr hn hm hs h0 h1 hrd
  go_enter Try.func26, Try.ntmps26
  go_wp2_with (first
    | (go_at_call 24; (with_reducible refine (H0.out).mono ?_); rintro e w1 ⟨rfl, hb1⟩; have HB1 := Lib.hid hb1; clear hb1)
    | (go_at_call 24; (with_reducible refine (H1.out w1 HB1.out).mono ?_); rintro e w2 ⟨rfl, hb2⟩; have HB2 := Lib.hid (stp HB1.out hb2); clear hb2)
    | (go_at_call 47; (with_reducible refine (HR.out _).mono ?_); rintro e w3 ⟨rfl, hb3⟩; have HB3 := Lib.hid (stp HB2.out hb3); clear hb3)
    | fail)
  go_ret3
  exact ⟨rfl, HB3.out⟩
set_option maxHeartbeats 8000000 in
set_option maxRecDepth 100000 in
theorem rfr_cb (A : Option Addr) (n cp : Nat) (ps : List Pr) (w : World) (hr : RdC PrC w w.heap.size A ps) (hn : ps.length = n) (hm : n ≤ 1000) (hs : SmP ps) (v0 v1 : ByteArray) (h0 : oneH ps nCoding = (v0.data.toList, true, 0)) (h1 : oneH ps nLength = (v1.data.toList, false, 0)) (hv : v0.size ≤ 1000000) (l : List ByteArray) (n2 : Nat) (z : Int) (hl : listS v0 = l) (hn2 : l.length = n2) (hz : (As.listE v0.data.toList : Int) = z) (hz0 : (z != 0) = true) : Calls Try.prog 26 #[.slice A n cp] w fun e w' => e = .returned (.tuple #[.int .u8 0, .int .i64 0, .int .i64 140]) ∧ Below w.heap.size w w' := by
  have H0 : Hid (Calls Try.prog 24 #[.slice A n cp, .string ⟨#[116, 114, 97, 110, 115, 102, 101, 114, 45, 101, 110, 99, 111, 100, 105, 110, 103]⟩] w fun e w' => e = .returned (.tuple #[.string v0, .bool true, .int .i64 0]) ∧ Below w.heap.size w w') := Lib.hid (rone14 A n cp ps ⟨#[116, 114, 97, 110, 115, 102, 101, 114, 45, 101, 110, 99, 111, 100, 105, 110, 103]⟩ w hr hn hm hs (by decide) v0 true 0 h0)
  have H1 : Hid (∀ W, Below w.heap.size w W → Calls Try.prog 24 #[.slice A n cp, .string ⟨#[99, 111, 110, 116, 101, 110, 116, 45, 108, 101, 110, 103, 116, 104]⟩] W fun e w' => e = .returned (.tuple #[.string v1, .bool false, .int .i64 0]) ∧ Below W.heap.size W w') := Lib.hid fun W hW => rone14 A n cp ps ⟨#[99, 111, 110, 116, 101, 110, 116, 45, 108, 101, 110, 103, 116, 104]⟩ W (hr.on hW) hn hm hs (by decide) v1 false 0 h1
  have HL : Hid (∀ W, Calls Try.prog 46 #[.string v0] W fun e w' => Below W.heap.size W w' ∧ ∃ A c, e = .returned (.tuple #[.slice A n2 c, .int .i64 z]) ∧ RdG encS w' w'.heap.size A l) := Lib.hid fun W => (rlist7 v0 l n2 z W hv hl hn2 hz).mono fun e w' ⟨k1, A, c, k2, _, k3⟩ => ⟨k1, A, c, k2, k3⟩
  clear hr hn hm hs h0 h1 hv hl hn2 hz
  go_enter Try.func26, Try.ntmps26
  go_wp2_with (first
    | (go_at_call 24; (with_reducible refine (H0.out).mono ?_); rintro e w1 ⟨rfl, hb1⟩; have HB1 := Lib.hid hb1; clear hb1)
    | (go_at_call 24; (with_reducible refine (H1.out w1 HB1.out).mono ?_); rintro e w2 ⟨rfl, hb2⟩; have HB2 := Lib.hid (stp HB1.out hb2); clear hb2)
    | (go_at_call 46; (with_reducible refine (HL.out _).mono ?_); rintro e w3 ⟨hb3, A3, c3, rfl, hr3⟩; have HB3 := Lib.hid (stp HB2.out hb3); clear hb3 hr3)
    | fail)
  go_ret3
  exact ⟨rfl, HB3.out⟩
set_option maxHeartbeats 8000000 in
set_option maxRecDepth 100000 in
theorem rfr_cn (A : Option Addr) (n cp : Nat) (ps : List Pr) (w : World) (hr : RdC PrC w w.heap.size A ps) (hn : ps.length = n) (hm : n ≤ 1000) (hs : SmP ps) (v0 v1 : ByteArray) (h0 : oneH ps nCoding = (v0.data.toList, true, 0)) (h1 : oneH ps nLength = (v1.data.toList, false, 0)) (hv : v0.size ≤ 1000000) (l : List ByteArray) (n2 : Nat) (hl : listS v0 = l) (hn2 : l.length = n2) (hz : (As.listE v0.data.toList : Int) = 0) (hn1 : ((n2 : Int) != 1) = true) : Calls Try.prog 26 #[.slice A n cp] w fun e w' => e = .returned (.tuple #[.int .u8 0, .int .i64 0, .int .i64 140]) ∧ Below w.heap.size w w' := by
  have H0 : Hid (Calls Try.prog 24 #[.slice A n cp, .string ⟨#[116, 114, 97, 110, 115, 102, 101, 114, 45, 101, 110, 99, 111, 100, 105, 110, 103]⟩] w fun e w' => e = .returned (.tuple #[.string v0, .bool true, .int .i64 0]) ∧ Below w.heap.size w w') := Lib.hid (rone14 A n cp ps ⟨#[116, 114, 97, 110, 115, 102, 101, 114, 45, 101, 110, 99, 111, 100, 105, 110, 103]⟩ w hr hn hm hs (by decide) v0 true 0 h0)
  have H1 : Hid (∀ W, Below w.heap.size w W → Calls Try.prog 24 #[.slice A n cp, .string ⟨#[99, 111, 110, 116, 101, 110, 116, 45, 108, 101, 110, 103, 116, 104]⟩] W fun e w' => e = .returned (.tuple #[.string v1, .bool false, .int .i64 0]) ∧ Below W.heap.size W w') := Lib.hid fun W hW => rone14 A n cp ps ⟨#[99, 111, 110, 116, 101, 110, 116, 45, 108, 101, 110, 103, 116, 104]⟩ W (hr.on hW) hn hm hs (by decide) v1 false 0 h1
  have HL : Hid (∀ W, Calls Try.prog 46 #[.string v0] W fun e w' => Below W.heap.size W w' ∧ ∃ A c, e = .returned (.tuple #[.slice A n2 c, .int .i64 0]) ∧ RdG encS w' w'.heap.size A l) := Lib.hid fun W => (rlist7 v0 l n2 0 W hv hl hn2 hz).mono fun e w' ⟨k1, A, c, k2, _, k3⟩ => ⟨k1, A, c, k2, k3⟩
  clear hr hn hm hs h0 h1 hv hl hn2 hz
  go_enter Try.func26, Try.ntmps26
  go_wp2_with (first
    | (go_at_call 24; (with_reducible refine (H0.out).mono ?_); rintro e w1 ⟨rfl, hb1⟩; have HB1 := Lib.hid hb1; clear hb1)
    | (go_at_call 24; (with_reducible refine (H1.out w1 HB1.out).mono ?_); rintro e w2 ⟨rfl, hb2⟩; have HB2 := Lib.hid (stp HB1.out hb2); clear hb2)
    | (go_at_call 46; (with_reducible refine (HL.out _).mono ?_); rintro e w3 ⟨hb3, A3, c3, rfl, hr3⟩; have HB3 := Lib.hid (stp HB2.out hb3); clear hb3 hr3)
    | fail)
  go_ret3
  exact ⟨rfl, HB3.out⟩
set_option maxHeartbeats 8000000 in
set_option maxRecDepth 100000 in
theorem rfr_cx (A : Option Addr) (n cp : Nat) (ps : List Pr) (w : World) (hr : RdC PrC w w.heap.size A ps) (hn : ps.length = n) (hm : n ≤ 1000) (hs : SmP ps) (v0 v1 : ByteArray) (h0 : oneH ps nCoding = (v0.data.toList, true, 0)) (h1 : oneH ps nLength = (v1.data.toList, false, 0)) (hv : v0.size ≤ 1000000) (x : ByteArray) (hl : listS v0 = [x]) (hz : (As.listE v0.data.toList : Int) = 0) (hx : (x.toList != (⟨#[99, 104, 117, 110, 107, 101, 100]⟩ : ByteArray).toList) = true) : Calls Try.prog 26 #[.slice A n cp] w fun e w' => e = .returned (.tuple #[.int .u8 0, .int .i64 0, .int .i64 140]) ∧ Below w.heap.size w w' := by
  have H0 : Hid (Calls Try.prog 24 #[.slice A n cp, .string ⟨#[116, 114, 97, 110, 115, 102, 101, 114, 45, 101, 110, 99, 111, 100, 105, 110, 103]⟩] w fun e w' => e = .returned (.tuple #[.string v0, .bool true, .int .i64 0]) ∧ Below w.heap.size w w') := Lib.hid (rone14 A n cp ps ⟨#[116, 114, 97, 110, 115, 102, 101, 114, 45, 101, 110, 99, 111, 100, 105, 110, 103]⟩ w hr hn hm hs (by decide) v0 true 0 h0)
  have H1 : Hid (∀ W, Below w.heap.size w W → Calls Try.prog 24 #[.slice A n cp, .string ⟨#[99, 111, 110, 116, 101, 110, 116, 45, 108, 101, 110, 103, 116, 104]⟩] W fun e w' => e = .returned (.tuple #[.string v1, .bool false, .int .i64 0]) ∧ Below W.heap.size W w') := Lib.hid fun W hW => rone14 A n cp ps ⟨#[99, 111, 110, 116, 101, 110, 116, 45, 108, 101, 110, 103, 116, 104]⟩ W (hr.on hW) hn hm hs (by decide) v1 false 0 h1
  have hx2 := hx
  rw [chunkL] at hx2
  have hx4 := hx2
  rw [bne, Bool.not_eq_true'] at hx4
  have hn2 : [x].length = 1 := rfl
  have HL : Hid (∀ W, Calls Try.prog 46 #[.string v0] W fun e w' => Below W.heap.size W w' ∧ ∃ A c, e = .returned (.tuple #[.slice A 1 c, .int .i64 0]) ∧ RdG encS w' w'.heap.size A [x]) := Lib.hid fun W => (rlist7 v0 [x] 1 0 W hv hl hn2 hz).mono fun e w' ⟨k1, A, c, k2, _, k3⟩ => ⟨k1, A, c, k2, k3⟩
  clear hr hn hm hs h0 h1 hv hl hn2 hz
  go_enter Try.func26, Try.ntmps26
  go_wp2_with (first
    | (go_at_call 24; (with_reducible refine (H0.out).mono ?_); rintro e w1 ⟨rfl, hb1⟩; have HB1 := Lib.hid hb1; clear hb1)
    | (go_at_call 24; (with_reducible refine (H1.out w1 HB1.out).mono ?_); rintro e w2 ⟨rfl, hb2⟩; have HB2 := Lib.hid (stp HB1.out hb2); clear hb2)
    | (go_at_call 46; (with_reducible refine (HL.out _).mono ?_); rintro e w3 ⟨hb3, A3, c3, rfl, hr3⟩; have HB3 := Lib.hid (stp HB2.out hb3); obtain ⟨b4, o4, rfl, hlt4, hc4⟩ := hr3 (by simp); have d4 : w3.cell? ⟨b4, o4, none⟩ = some (.string x) := hc4 0 (by simp); clear hc4; clear hb3)
    | fail)
  go_ret3
  exact ⟨rfl, HB3.out⟩
set_option maxHeartbeats 8000000 in
set_option maxRecDepth 100000 in
theorem rfr_cok (A : Option Addr) (n cp : Nat) (ps : List Pr) (w : World) (hr : RdC PrC w w.heap.size A ps) (hn : ps.length = n) (hm : n ≤ 1000) (hs : SmP ps) (v0 v1 : ByteArray) (h0 : oneH ps nCoding = (v0.data.toList, true, 0)) (h1 : oneH ps nLength = (v1.data.toList, false, 0)) (hv : v0.size ≤ 1000000) (x : ByteArray) (hl : listS v0 = [x]) (hz : (As.listE v0.data.toList : Int) = 0) (hx : (x.toList != (⟨#[99, 104, 117, 110, 107, 101, 100]⟩ : ByteArray).toList) = false) : Calls Try.prog 26 #[.slice A n cp] w fun e w' => e = .returned (.tuple #[.int .u8 2, .int .i64 0, .int .i64 0]) ∧ Below w.heap.size w w' := by
  have H0 : Hid (Calls Try.prog 24 #[.slice A n cp, .string ⟨#[116, 114, 97, 110, 115, 102, 101, 114, 45, 101, 110, 99, 111, 100, 105, 110, 103]⟩] w fun e w' => e = .returned (.tuple #[.string v0, .bool true, .int .i64 0]) ∧ Below w.heap.size w w') := Lib.hid (rone14 A n cp ps ⟨#[116, 114, 97, 110, 115, 102, 101, 114, 45, 101, 110, 99, 111, 100, 105, 110, 103]⟩ w hr hn hm hs (by decide) v0 true 0 h0)
  have H1 : Hid (∀ W, Below w.heap.size w W → Calls Try.prog 24 #[.slice A n cp, .string ⟨#[99, 111, 110, 116, 101, 110, 116, 45, 108, 101, 110, 103, 116, 104]⟩] W fun e w' => e = .returned (.tuple #[.string v1, .bool false, .int .i64 0]) ∧ Below W.heap.size W w') := Lib.hid fun W hW => rone14 A n cp ps ⟨#[99, 111, 110, 116, 101, 110, 116, 45, 108, 101, 110, 103, 116, 104]⟩ W (hr.on hW) hn hm hs (by decide) v1 false 0 h1
  have hx2 := hx
  rw [chunkL] at hx2
  have hx4 := hx2
  rw [bne, Bool.not_eq_false'] at hx4
  have hn2 : [x].length = 1 := rfl
  have HL : Hid (∀ W, Calls Try.prog 46 #[.string v0] W fun e w' => Below W.heap.size W w' ∧ ∃ A c, e = .returned (.tuple #[.slice A 1 c, .int .i64 0]) ∧ RdG encS w' w'.heap.size A [x]) := Lib.hid fun W => (rlist7 v0 [x] 1 0 W hv hl hn2 hz).mono fun e w' ⟨k1, A, c, k2, _, k3⟩ => ⟨k1, A, c, k2, k3⟩
  clear hr hn hm hs h0 h1 hv hl hn2 hz
  go_enter Try.func26, Try.ntmps26
  go_wp2_with (first
    | (go_at_call 24; (with_reducible refine (H0.out).mono ?_); rintro e w1 ⟨rfl, hb1⟩; have HB1 := Lib.hid hb1; clear hb1)
    | (go_at_call 24; (with_reducible refine (H1.out w1 HB1.out).mono ?_); rintro e w2 ⟨rfl, hb2⟩; have HB2 := Lib.hid (stp HB1.out hb2); clear hb2)
    | (go_at_call 46; (with_reducible refine (HL.out _).mono ?_); rintro e w3 ⟨hb3, A3, c3, rfl, hr3⟩; have HB3 := Lib.hid (stp HB2.out hb3); obtain ⟨b4, o4, rfl, hlt4, hc4⟩ := hr3 (by simp); have d4 : w3.cell? ⟨b4, o4, none⟩ = some (.string x) := hc4 0 (by simp); clear hc4; clear hb3)
    | fail)
  go_ret3
  exact ⟨rfl, HB3.out⟩
theorem rframe14 (A : Option Addr) (n cp : Nat) (ps : List Pr) (w : World) (hr : RdC PrC w w.heap.size A ps) (hn : ps.length = n) (hm : n ≤ 1000) (hs : SmP ps) (K : Nat) (N q : Int) (h : frameH ps = (K, N, q)) : Calls Try.prog 26 #[.slice A n cp] w fun e w' => e = .returned (.tuple #[.int .u8 (K : Int), .int .i64 N, .int .i64 q]) ∧ Below w.heap.size w w' := by
  have fin : ∀ (K' : Nat) (N' q' : Int), frameH ps = (K', N', q') → K = K' ∧ N = N' ∧ q = q' := fun K' N' q' e => by
    rw [e] at h
    obtain ⟨e1, e2⟩ := (Prod.mk.injEq _ _ _ _).mp h
    obtain ⟨e2, e3⟩ := (Prod.mk.injEq _ _ _ _).mp e2
    exact ⟨e1.symm, e2.symm, e3.symm⟩
  rcases one_cases ps nCoding with ⟨v0, h0⟩ | ⟨v0, h0⟩ | ⟨v0, h0⟩
  · rcases one_cases ps nLength with ⟨v1, h1⟩ | ⟨v1, h1⟩ | ⟨v1, h1⟩
    · obtain ⟨rfl, rfl, rfl⟩ := fin _ _ _ (fr_both h0 h1)
      exact rfr_both A n cp ps w hr hn hm hs v0 v1 h0 h1
    · have hv : v0.size ≤ 1000000 := by
        have h2 := find_mem (one_mem h0) hs
        rw [ba_l] at h2
        omega
      cases hch : isChunked v0.data.toList with
      | true =>
        obtain ⟨rfl, rfl, rfl⟩ := fin _ _ _ (fr_coding h0 hch h1)
        unfold isChunked at hch
        rw [Bool.and_eq_true, decide_eq_true_eq, decide_eq_true_eq] at hch
        have hl : listS v0 = [⟨#[99, 104, 117, 110, 107, 101, 100]⟩] := by
          unfold listS
          rw [if_pos hch.1, hch.2]
          rfl
        exact rfr_cok A n cp ps w hr hn hm hs v0 v1 h0 h1 hv ⟨#[99, 104, 117, 110, 107, 101, 100]⟩ hl (by rw [hch.1]; rfl) (by simp)
      | false =>
        obtain ⟨rfl, rfl, rfl⟩ := fin _ _ _ (fr_bad0 h0 hch)
        by_cases hz : As.listE v0.data.toList = 0
        · rcases hl : listS v0 with _ | ⟨x, _ | ⟨y, r⟩⟩
          · exact rfr_cn A n cp ps w hr hn hm hs v0 v1 h0 h1 hv [] 0 hl rfl (by rw [hz]; rfl) (by decide)
          · refine rfr_cx A n cp ps w hr hn hm hs v0 v1 h0 h1 hv x hl (by rw [hz]; rfl) ?_
            rw [bne, seqS, Bool.not_eq_true', decide_eq_false_iff_not]
            rintro rfl
            unfold isChunked at hch
            unfold listS at hl
            rw [if_pos hz] at hl
            rw [decide_eq_true hz, Bool.true_and, ← chunked_iff, hl] at hch
            simp at hch
          · refine rfr_cn A n cp ps w hr hn hm hs v0 v1 h0 h1 hv _ _ hl rfl (by rw [hz]; rfl) ?_
            simp
            omega
        · exact rfr_cb A n cp ps w hr hn hm hs v0 v1 h0 h1 hv _ _ _ rfl rfl rfl (by simpa using hz)
    · obtain ⟨rfl, rfl, rfl⟩ := fin _ _ _ (fr_err1 h1)
      exact rfr_e1_t A n cp ps w hr hn hm hs v0 v1 h0 h1
  · rcases one_cases ps nLength with ⟨v1, h1⟩ | ⟨v1, h1⟩ | ⟨v1, h1⟩
    · rcases readR_ok v1.data.toList with ⟨m, k1, k2⟩ | ⟨k1, k2⟩
      · obtain ⟨rfl, rfl, rfl⟩ := fin _ _ _ (fr_ok1 h0 h1 k1)
        exact rfr_len A n cp ps w hr hn hm hs v0 v1 h0 h1 m k2
      · obtain ⟨rfl, rfl, rfl⟩ := fin _ _ _ (fr_bad1 h1 k1)
        exact rfr_lenb A n cp ps w hr hn hm hs v0 v1 h0 h1 k2
    · obtain ⟨rfl, rfl, rfl⟩ := fin _ _ _ (fr_none h0 h1)
      exact rfr_none A n cp ps w hr hn hm hs v0 v1 h0 h1
    · obtain ⟨rfl, rfl, rfl⟩ := fin _ _ _ (fr_err1 h1)
      exact rfr_e1_f A n cp ps w hr hn hm hs v0 v1 h0 h1
  · obtain ⟨rfl, rfl, rfl⟩ := fin _ _ _ (fr_err0 h0)
    rcases one_cases ps nLength with ⟨v1, h1⟩ | ⟨v1, h1⟩ | ⟨v1, h1⟩
    · exact rfr_e0_t0 A n cp ps w hr hn hm hs v0 v1 h0 h1
    · exact rfr_e0_f0 A n cp ps w hr hn hm hs v0 v1 h0 h1
    · exact rfr_e0_f140 A n cp ps w hr hn hm hs v0 v1 h0 h1
end Hx
end Go.Proofs.Ytfdhogaknlabkaa
namespace Go.Proofs.Ytfdhogaknlabkaa
open Go.RowKit
namespace Hx
open Lx Hd
set_option linter.unusedVariables false
def pbOf (p : Pr) : PB := (⟨p.name.toArray⟩, ⟨p.value.toArray⟩)
theorem prVal_pbOf (p : Pr) : prVal (pbOf p) = p := by cases p; simp [prVal, pbOf]
theorem map_pbOf (l : List Pr) : (l.map pbOf).map prVal = l := by
  rw [List.map_map]
  exact (List.map_congr_left (g := id) fun p _ => prVal_pbOf p).trans (List.map_id _)
theorem rdc_news {w : World} {B : Nat} {ad : Addr} {l : List Pr} (h : RdC PrC w B (some ad) l) : ∀ (j : Nat) (u : Value), ((l.map pbOf).flatMap prCells)[j]? = some u → w.cell? (ad.add j) = some u := by
  intro j u hu
  have hlen := flat_len prCells 2 (fun _ => rfl) (l.map pbOf)
  rw [List.length_map] at hlen
  have hj := (List.getElem?_eq_some_iff.1 hu).1
  have hq : j / 2 < l.length := by omega
  obtain ⟨b, off, e, _, hc⟩ := h (by omega)
  injection e with e
  subst e
  obtain ⟨cs, ⟨s, t, rfl, hs, ht⟩, hcell⟩ := hc (j / 2) hq
  have hat := flat_at prCells 2 (fun _ => rfl) (l.map pbOf) (j / 2) (j % 2) (by rw [List.length_map]; exact hq) (by omega)
  rw [show j / 2 * 2 + j % 2 = j by omega, hu] at hat
  rw [addr_plain]
  rw [List.getElem_map] at hat
  have e1 : s = ⟨(l[j / 2]'hq).name.toArray⟩ := ba_x (by rw [hs])
  have e2 : t = ⟨(l[j / 2]'hq).value.toArray⟩ := ba_x (by rw [ht])
  rcases (show j % 2 = 0 ∨ j % 2 = 1 by omega) with h0 | h0
  · have := hcell 0 (by simp)
    rw [show off + j = off + j / 2 * 2 + 0 by omega]
    refine this.trans ?_
    rw [Option.some.inj hat]
    simp [h0, prCells, pbOf, e1]
  · have := hcell 1 (by simp)
    rw [show off + j = off + j / 2 * 2 + 1 by omega]
    refine this.trans ?_
    rw [Option.some.inj hat]
    simp [h0, prCells, pbOf, e2]
theorem news_one (l : List Pr) : ∀ u ∈ (l.map pbOf).flatMap prCells, u.oneCell' = true := by
  intro u hu
  obtain ⟨p, _, h⟩ := List.mem_flatMap.1 hu
  simp [prCells] at h
  rcases h with rfl | rfl <;> rfl
theorem own_empty (w : World) (T : TypeId) (k : Nat) : (w.alloc (.cells #[] T)).ownsRow w.heap.size T k (.slice (some ⟨w.heap.size, 0, none⟩) 0 0) 0 [] :=
  ⟨by simp, .inr ⟨w.heap.size, 0, #[], rfl, Nat.le_refl _, heap_alloc_new _ _, Nat.le_refl _, Nat.zero_le _, by simp, by simp⟩⟩
theorem wpList_append_pr {P : Program} {w : World} {ops : Array Oper} {rest : List Oper} {o : Oper} {a : Act} {Q : Exit → Act → World → Prop} (hgd : o.guard = none) (s x : Operand) (t : TypeId)
    (ho : o.op = .call { callee := .builtin .append, args := #[s, x], argTypes := #[t, t] })
    (base : Nat) (e : TypeId) (i : TypeInfo) (z : Value) (ht : P.underlying t = some (.slice e)) (hi : P.info? e = some i) (hz : i.zero = some z) (hsize : i.size = 2) (hby : i.bytes = 32) (hzs : z.cells.size = 2)
    (v : Value) (hs : a.eval s = v) (hown : w.ownsRow base e 2 v 0 [])
    (B : Nat) (A : Option Addr) (m c : Nat) (l : List Pr) (hx : a.eval x = .slice A m c) (hr : RdC PrC w B A l) (hl : l.length = m) (hc0 : A = none → c = 0) (hb : m ≤ 1000000) (hbase : base ≤ w.heap.size)
    (h : ∀ v' w', w'.ownsRow base e 2 v' m ((l.map pbOf).flatMap prCells) → w.grownBy w' v.ownBlock → wpList P ops Q rest (a.put o.dst v') w') : wpList P ops Q (o :: rest) a w := by
  have hlen := flat_len prCells 2 (fun _ => rfl) (l.map pbOf)
  rw [List.length_map, hl] at hlen
  rcases A with _ | ad
  · have h0 : l = [] := by
      rcases Nat.eq_zero_or_pos l.length with h0 | h0
      · exact List.eq_nil_of_length_eq_zero h0
      · obtain ⟨_, _, he, _⟩ := hr h0
        cases he
    subst h0
    obtain rfl : 0 = m := hl
    rw [hc0 rfl] at hx
    exact wpList_append_own_none hgd s x t ho base e i 2 ht hi v 0 [] hs hown hx (h v w hown (World.grownBy.refl _ _))
  · refine wpList_append_own w hgd s x t ho base e i z 2 32 ht hi hz hsize hby hzs (by decide) v 0 [] hs hown ad m c ((l.map pbOf).flatMap prCells) hx hlen (rdc_news hr) (news_one l) (by unfold maxLen; omega) (by omega) hbase (fun v' w' h1 h2 _ => ?_)
    rw [Nat.zero_add, List.nil_append] at h1
    exact h v' w' h1 h2
theorem line_le : ∀ (ps : List Pr), ∀ p ∈ ps, (lineP p).length ≤ (linesP ps).length
  | [], p, h => by cases h
  | q :: ps, p, h => by
    unfold linesP
    rw [List.flatMap_cons, List.length_append]
    rcases List.mem_cons.1 h with rfl | h
    · omega
    · have := line_le ps p h
      unfold linesP at this
      omega
/-- A row of fields, written out. -/
theorem rdc_pbs (w : World) (T : TypeId) (L : List PB) : RdC PrC (w.alloc (.cells (L.flatMap prCells).toArray T)) (w.alloc (.cells (L.flatMap prCells).toArray T)).heap.size (some ⟨w.heap.size, 0, none⟩) (L.map prVal) := by
  intro _
  refine ⟨_, _, rfl, by rw [World.size_alloc]; exact Nat.lt_succ_self _, fun j hj => ?_⟩
  have hj' : j < L.length := by simpa using hj
  refine ⟨prCells (L[j]'hj'), by rw [List.getElem_map]; exact prCells_R _ _ _, fun i hi => ?_⟩
  have hi' : i < 2 := hi
  have := new_at w (L.flatMap prCells) T w.heap.size rfl (j * 2 + i) _ (flat_at prCells 2 (fun _ => rfl) L j i hj' hi')
  rw [addr_plain] at this
  rw [Nat.zero_add] at this ⊢
  exact this
theorem pair14 (x y : ByteArray) (w : World) : Calls Try.prog 11 #[.string x, .string y] w fun e w' => e = .returned (.agg #[.string x, .string y]) ∧ Below w.heap.size w w' := by
  go_enter Try.func11, Try.ntmps11
  go_wp2_with fail
  exact bodyPost_ret (v := .agg #[.string x, .string y]) (results_cell_row rfl _ _ _ _ #[.string x, .string y] _ _ rfl (heap_alloc_new w (.cells #[.string x, .string y] 25)) Try.underlying25 rfl sizePr) rfl ⟨rfl, stpA (Below.refl _ _) _⟩
set_option maxHeartbeats 8000000 in
set_option maxRecDepth 100000 in
theorem are14 (s : ByteArray) (A : Option Addr) (n cp : Nat) (ps : List Pr) (w : World) (hX : Mx w) (hm : s.size ≤ 1000000) (hr : RdC PrC w w.heap.size A ps) (hn : ps.length = n) (h : parseH s.data.toList = (ps, 0)) :
    Calls Try.prog 17 #[.string s, .slice A n cp] w fun e w' => e = .returned (.bool true) ∧ Below w.heap.size w w' := by
  have HA : Hid (Calls Try.prog 13 #[.string s] w (HParseTo ps 0 w)) := Lib.hid (parse14 s ps 0 w hX hm h)
  have hle := (parse_wrap h).2
  have HS : Hid (∀ A1 c1 A2 c2 W, RdC PrC W W.heap.size A1 ps → RdC PrC W W.heap.size A2 ps → Calls Try.prog 19 #[.slice A1 n c1, .slice A2 n c2] W fun e w' => e = .returned (.bool true) ∧ Below W.heap.size W w') := Lib.hid fun A1 c1 A2 c2 W k1 k2 =>
    rpairs9 A1 A2 n c1 n c2 ps ps W k1 hn k2 hn (by omega) (by omega) true (decide_eq_true rfl)
  unfold HParseTo at HA
  rw [hn] at HA
  have HR := Lib.hid hr
  clear hX hm hr hn h hle
  go_enter Try.func17, Try.ntmps17
  go_wp2_with (first
    | (go_at_call 13; (with_reducible refine (HA.out).mono ?_); rintro e1 w1 ⟨hb1, A1, c1, rfl, _, _, _, hr1⟩; have HR1 := Lib.hid hr1; have HR0 := Lib.hid (HR.out.on hb1); have HB1 := Lib.hid hb1; clear hb1 hr1)
    | (go_at_call 19; (with_reducible refine (HS.out A1 c1 A cp w1 HR1.out HR0.out).mono ?_); rintro e3 w3 ⟨rfl, hb3⟩; have HB3 := Lib.hid (stp HB1.out hb3); clear hb3)
    | fail)
  go_ret
  exact ⟨rfl, HB3.out⟩
set_option maxHeartbeats 8000000 in
set_option maxRecDepth 100000 in
theorem odd14 (s : ByteArray) (w : World) (hX : Mx w) (hm : s.size ≤ 1000000) (h : parseH s.data.toList = ([], 140)) :
    Calls Try.prog 9 #[.string s] w fun e w' => e = .returned (.bool true) ∧ Below w.heap.size w w' := by
  have HA : Hid (Calls Try.prog 13 #[.string s] w (HParseTo [] 140 w)) := Lib.hid (parse14 s [] 140 w hX hm h)
  unfold HParseTo at HA
  simp only [List.length_nil] at HA
  clear hX hm h
  go_enter Try.func9, Try.ntmps9
  go_wp2_with (first
    | (go_at_call 13; (with_reducible refine (HA.out).mono ?_); rintro e1 w1 ⟨hb1, A1, c1, rfl, _, _, _, _⟩)
    | fail)
  go_ret
  exact ⟨rfl, hb1⟩
set_option maxHeartbeats 8000000 in
set_option maxRecDepth 100000 in
theorem frames14 (A : Option Addr) (n cp : Nat) (ps : List Pr) (w : World) (hr : RdC PrC w w.heap.size A ps) (hn : ps.length = n) (hm : n ≤ 1000) (hs : SmP ps) (K : Nat) (N : Int) (h : frameH ps = (K, N, 0)) :
    Calls Try.prog 12 #[.int .u8 (K : Int), .int .i64 N, .slice A n cp] w fun e w' => e = .returned (.bool true) ∧ Below w.heap.size w w' := by
  obtain ⟨k, hk⟩ : ∃ k : Int, (K : Int) = k := ⟨_, rfl⟩
  have HF : Hid (Calls Try.prog 25 #[.slice A n cp] w fun e w' => e = .returned (.tuple #[.int .u8 k, .int .i64 N, .int .i64 0]) ∧ Below w.heap.size w w') := Lib.hid (hk ▸ frame14 A n cp ps w hr hn hm hs K N 0 h)
  have e1 : (k == k) = true := by simp
  have e2 : (N == N) = true := by simp
  rw [hk]
  clear hr hn hm hs h hk
  go_enter Try.func12, Try.ntmps12
  go_wp2_with (first
    | (go_at_call 25; (with_reducible refine (HF.out).mono ?_); rintro e1 w1 ⟨rfl, hb1⟩)
    | fail)
  go_ret
  exact ⟨rfl, hb1⟩
set_option maxHeartbeats 8000000 in
set_option maxRecDepth 100000 in
theorem lost14 (A : Option Addr) (n cp : Nat) (ps : List Pr) (w : World) (hr : RdC PrC w w.heap.size A ps) (hn : ps.length = n) (hm : n ≤ 1000) (hs : SmP ps) (h : frameH ps = (0, 0, 140)) :
    Calls Try.prog 10 #[.slice A n cp] w fun e w' => e = .returned (.bool true) ∧ Below w.heap.size w w' := by
  have HF : Hid (Calls Try.prog 25 #[.slice A n cp] w fun e w' => e = .returned (.tuple #[.int .u8 0, .int .i64 0, .int .i64 140]) ∧ Below w.heap.size w w') := Lib.hid (frame14 A n cp ps w hr hn hm hs 0 0 140 h)
  clear hr hn hm hs h
  go_enter Try.func10, Try.ntmps10
  go_wp2_with (first
    | (go_at_call 25; (with_reducible refine (HF.out).mono ?_); rintro e1 w1 ⟨rfl, hb1⟩)
    | fail)
  go_ret
  exact ⟨rfl, hb1⟩
theorem sm_lits (L : List PB) (h : (L.all fun p => decide (p.1.size ≤ 20000) && decide (p.2.size ≤ 20000)) = true) : SmP (L.map prVal) := by
  intro p hp
  obtain ⟨q, hq, rfl⟩ := List.mem_map.1 hp
  have := List.all_eq_true.1 h q hq
  rw [Bool.and_eq_true, decide_eq_true_eq, decide_eq_true_eq] at this
  unfold prVal
  dsimp only
  rw [ba_l, ba_l]
  exact this
theorem are_lits (s : ByteArray) (L : List PB) (w : World) (hX : Mx w) (hm : s.size ≤ 1000000) (h : parseH s.data.toList = (L.map prVal, 0)) (n : Nat) (hn : L.length = n) (cs : Array Value) (hc : (L.flatMap prCells).toArray = cs) :
    Calls Try.prog 17 #[.string s, .slice (some ⟨w.heap.size, 0, none⟩) n n] (w.alloc (.cells cs 25)) fun e w' => e = .returned (.bool true) ∧ Below w.heap.size w w' := by
  subst hc
  exact (are14 s _ n n _ _ (hX.below (stpA (Below.refl _ _) _)) hm (rdc_pbs w _ L) (by rw [List.length_map]; exact hn) h).mono fun e w' ⟨h1, h2⟩ => ⟨h1, stp (stpA (Below.refl _ _) _) h2⟩
theorem frames_lits (L : List PB) (w : World) (K : Nat) (N : Int) (h : frameH (L.map prVal) = (K, N, 0)) (hs : SmP (L.map prVal)) (n : Nat) (hn : L.length = n) (hm : n ≤ 1000) (cs : Array Value) (hc : (L.flatMap prCells).toArray = cs) :
    Calls Try.prog 12 #[.int .u8 (K : Int), .int .i64 N, .slice (some ⟨w.heap.size, 0, none⟩) n n] (w.alloc (.cells cs 25)) fun e w' => e = .returned (.bool true) ∧ Below w.heap.size w w' := by
  subst hc
  exact (frames14 _ n n _ _ (rdc_pbs w _ L) (by rw [List.length_map]; exact hn) hm hs K N h).mono fun e w' ⟨h1, h2⟩ => ⟨h1, stp (stpA (Below.refl _ _) _) h2⟩
theorem lost_lits (L : List PB) (w : World) (h : frameH (L.map prVal) = (0, 0, 140)) (hs : SmP (L.map prVal)) (n : Nat) (hn : L.length = n) (hm : n ≤ 1000) (cs : Array Value) (hc : (L.flatMap prCells).toArray = cs) :
    Calls Try.prog 10 #[.slice (some ⟨w.heap.size, 0, none⟩) n n] (w.alloc (.cells cs 25)) fun e w' => e = .returned (.bool true) ∧ Below w.heap.size w w' := by
  subst hc
  exact (lost14 _ n n _ _ (rdc_pbs w _ L) (by rw [List.length_map]; exact hn) hm hs h).mono fun e w' ⟨h1, h2⟩ => ⟨h1, stp (stpA (Below.refl _ _) _) h2⟩
set_option maxHeartbeats 8000000 in
set_option maxRecDepth 100000 in
theorem alive14 (w : World) (hX : Mx w) : Calls Try.prog 16 #[] w fun e w' => e = .returned (.bool true) ∧ Below w.heap.size w w' := by
  have HA : Hid (∀ W, Below w.heap.size w W → Calls Try.prog 17 #[.string ⟨#[72, 111, 115, 116, 58, 32, 97, 46, 101, 120, 97, 109, 112, 108, 101, 13, 10, 67, 111, 110, 116, 101, 110, 116, 45, 76, 69, 78, 71, 84, 72, 58, 53, 13, 10]⟩, .slice (some ⟨W.heap.size, 0, none⟩) 2 2] (W.alloc (.cells #[.string ⟨#[104, 111, 115, 116]⟩, .string ⟨#[97, 46, 101, 120, 97, 109, 112, 108, 101]⟩, .string ⟨#[99, 111, 110, 116, 101, 110, 116, 45, 108, 101, 110, 103, 116, 104]⟩, .string ⟨#[53]⟩] 25)) fun e w' => e = .returned (.bool true) ∧ Below W.heap.size W w') := Lib.hid fun W hW => are_lits _ [(⟨#[104, 111, 115, 116]⟩, ⟨#[97, 46, 101, 120, 97, 109, 112, 108, 101]⟩), (⟨#[99, 111, 110, 116, 101, 110, 116, 45, 108, 101, 110, 103, 116, 104]⟩, ⟨#[53]⟩)] W (hX.below hW) (by decide) (by decide +kernel) 2 rfl _ rfl
  have HF : Hid (∀ W, Calls Try.prog 12 #[.int .u8 1, .int .i64 5, .slice (some ⟨W.heap.size, 0, none⟩) 1 1] (W.alloc (.cells #[.string ⟨#[67, 111, 110, 116, 101, 110, 116, 45, 76, 101, 110, 103, 116, 104]⟩, .string ⟨#[53]⟩] 25)) fun e w' => e = .returned (.bool true) ∧ Below W.heap.size W w') := Lib.hid fun W => frames_lits [(⟨#[67, 111, 110, 116, 101, 110, 116, 45, 76, 101, 110, 103, 116, 104]⟩, ⟨#[53]⟩)] W 1 5 (by decide +kernel) (sm_lits _ (by decide +kernel)) 1 rfl (by decide) _ rfl
  clear hX
  go_enter Try.func16, Try.ntmps16
  go_wp2_with (first
    | (go_at_call 11; (with_reducible refine (pair14 ⟨#[104, 111, 115, 116]⟩ ⟨#[97, 46, 101, 120, 97, 109, 112, 108, 101]⟩ w).mono ?_); rintro e w1 ⟨rfl, hb1⟩; have HB1 := Lib.hid (hb1); clear hb1)
    | (go_at_call 11; (with_reducible refine (pair14 ⟨#[99, 111, 110, 116, 101, 110, 116, 45, 108, 101, 110, 103, 116, 104]⟩ ⟨#[53]⟩ w1).mono ?_); rintro e w2 ⟨rfl, hb2⟩; have HB2 := Lib.hid (stp HB1.out hb2); clear hb2)
    | (go_at_call 17; (with_reducible refine (HA.out w2 HB2.out).mono ?_); rintro e w3 ⟨rfl, hb3⟩; have HB3 := Lib.hid (stp HB2.out hb3); clear hb3)
    | (go_at_call 11; (with_reducible refine (pair14 ⟨#[67, 111, 110, 116, 101, 110, 116, 45, 76, 101, 110, 103, 116, 104]⟩ ⟨#[53]⟩ w3).mono ?_); rintro e w4 ⟨rfl, hb4⟩; have HB4 := Lib.hid (stp HB3.out hb4); clear hb4)
    | (go_at_call 12; (with_reducible refine (HF.out w4).mono ?_); rintro e w5 ⟨rfl, hb5⟩; have HB5 := Lib.hid (stp HB4.out hb5); clear hb5)
    | fail)
  go_ret
  exact ⟨rfl, HB5.out⟩
end Hx
end Go.Proofs.Ytfdhogaknlabkaa
namespace Go.Proofs.Ytfdhogaknlabkaa
open Go.RowKit
namespace Hx
open Lx Hd
set_option linter.unusedVariables false
theorem run_append_prs {P : Program} {w : World} {t ot : TypeId} (base : Nat) (e : TypeId) (i : TypeInfo) (z : Value) (ht : P.underlying t = some (.slice e)) (hi : P.info? e = some i) (hz : i.zero = some z) (hsize : i.size = 2) (hby : i.bytes = 32) (hzs : z.cells.size = 2)
    (v : Value) (n : Nat) (xs : List Value) (hown : w.ownsRow base e 2 v n xs)
    (B : Nat) (A : Option Addr) (m c : Nat) (l : List Pr) (hr : RdC PrC w B A l) (hl : l.length = m) (hc0 : A = none → c = 0) (hb : n + m ≤ 1000000) (hbase : base ≤ w.heap.size) :
    ∃ v' w', (Builtin.append_ #[t, t] ot #[v, .slice A m c]).run P w = .ok v' w' ∧ w'.ownsRow base e 2 v' (n + m) (xs ++ (l.map pbOf).flatMap prCells) ∧ w.grownBy w' v.ownBlock := by
  have hlen := flat_len prCells 2 (fun _ => rfl) (l.map pbOf)
  rw [List.length_map, hl] at hlen
  rcases A with _ | ad
  · have h0 : l = [] := by
      rcases Nat.eq_zero_or_pos l.length with h0 | h0
      · exact List.eq_nil_of_length_eq_zero h0
      · obtain ⟨_, _, he, _⟩ := hr h0
        cases he
    subst h0
    obtain rfl : 0 = m := hl
    rw [hc0 rfl]
    exact ⟨v, w, run_append_owned_none w base t ot e i 2 ht hi v n xs hown, by simpa using hown, World.grownBy.refl _ _⟩
  · obtain ⟨v', w', hr', h2, h3, _⟩ := run_append_own (P := P) w base t ot e i z 2 32 ht hi hz hsize hby hzs (by decide) v n xs hown ad m c ((l.map pbOf).flatMap prCells) hlen (rdc_news hr) (news_one l) (by unfold maxLen; omega) (by omega) hbase
    exact ⟨v', w', hr', h2, h3⟩
theorem step_append_prs {P : Program} {w : World} {ops : Array Oper} {o : Oper} {a : Act} {K : Act → World → Prop} {Q : Exit → Act → World → Prop} {E' : Prop} (hgd : o.guard = none) (s x : Operand) (t : TypeId)
    (ho : o.op = .call { callee := .builtin .append, args := #[s, x], argTypes := #[t, t] }) (base : Nat) (e : TypeId) (i : TypeInfo) (z : Value) (ht : P.underlying t = some (.slice e)) (hi : P.info? e = some i) (hz : i.zero = some z) (hsize : i.size = 2) (hby : i.bytes = 32) (hzs : z.cells.size = 2)
    (v : Value) (n : Nat) (xs : List Value) (hs : a.eval s = v) (hown : w.ownsRow base e 2 v n xs)
    (B : Nat) (A : Option Addr) (m c : Nat) (l : List Pr) (hx : a.eval x = .slice A m c) (hr : RdC PrC w B A l) (hl : l.length = m) (hc0 : A = none → c = 0) (hb : n + m ≤ 1000000) (hbase : base ≤ w.heap.size)
    (h : ∀ v' w', w'.ownsRow base e 2 v' (n + m) (xs ++ (l.map pbOf).flatMap prCells) → w.grownBy w' v.ownBlock → K (a.put o.dst v') w') : if Region.wanted o (yielded ops a.tmps) = true then Oper.wp P o a w K Q else E' := by
  have hw : Region.wanted o (yielded ops a.tmps) = true := by simp [Region.wanted, hgd]
  rw [if_pos hw]
  obtain ⟨v', w', hrun, h2, h3⟩ := run_append_prs (P := P) (w := w) (t := t) (ot := o.type) base e i z ht hi hz hsize hby hzs v n xs hown B A m c l hr hl hc0 hb hbase
  unfold Oper.wp execOp
  simp only [ho, resolve, invoke, builtin, Sem.run_bind, Sem.run_pure, Result.andThen_ok, List.map_toArray, List.map_cons, List.map_nil, hs, hx, hrun]
  exact h v' w' h2 h3
theorem wpList_append_prs {P : Program} {w : World} {ops : Array Oper} {rest : List Oper} {o : Oper} {a : Act} {Q : Exit → Act → World → Prop} (hgd : o.guard = none) (s x : Operand) (t : TypeId)
    (ho : o.op = .call { callee := .builtin .append, args := #[s, x], argTypes := #[t, t] }) (base : Nat) (e : TypeId) (i : TypeInfo) (z : Value) (ht : P.underlying t = some (.slice e)) (hi : P.info? e = some i) (hz : i.zero = some z) (hsize : i.size = 2) (hby : i.bytes = 32) (hzs : z.cells.size = 2)
    (v : Value) (n : Nat) (xs : List Value) (hs : a.eval s = v) (hown : w.ownsRow base e 2 v n xs)
    (B : Nat) (A : Option Addr) (m c : Nat) (l : List Pr) (hx : a.eval x = .slice A m c) (hr : RdC PrC w B A l) (hl : l.length = m) (hc0 : A = none → c = 0) (hb : n + m ≤ 1000000) (hbase : base ≤ w.heap.size)
    (h : ∀ v' w', w'.ownsRow base e 2 v' (n + m) (xs ++ (l.map pbOf).flatMap prCells) → w.grownBy w' v.ownBlock → wpList P ops Q rest (a.put o.dst v') w') : wpList P ops Q (o :: rest) a w := by
  refine wpList_plain hgd fun K hK => ?_
  obtain ⟨v', w', hrun, h2, h3⟩ := run_append_prs (P := P) (w := w) (t := t) (ot := o.type) base e i z ht hi hz hsize hby hzs v n xs hown B A m c l hr hl hc0 hb hbase
  unfold Oper.wp execOp
  simp only [ho, resolve, invoke, builtin, Sem.run_bind, Sem.run_pure, Result.andThen_ok, List.map_toArray, List.map_cons, List.map_nil, hs, hx, hrun]
  exact hK _ _ (h v' w' h2 h3)
/-! how a field more counts -/
theorem find_snoc (l : List Pr) (p : Pr) (nm : List UInt8) : findH (l ++ [p]) nm = findH l nm ++ (if As.lows p.name = As.lows nm then [p.value] else []) := by
  unfold findH
  rw [List.filter_append, List.map_append]
  congr 1
  rw [List.filter_cons]
  by_cases e : As.lows p.name = As.lows nm
  · rw [if_pos e, decide_eq_true e]; rfl
  · rw [if_neg e, decide_eq_false e]; rfl
theorem one_of_len (l : List Pr) (nm : List UInt8) : ((findH l nm).length = 0 ∧ oneH l nm = ([], false, 0)) ∨ ((findH l nm).length = 1 ∧ ∃ v, findH l nm = [v] ∧ oneH l nm = (v, true, 0)) ∨ (2 ≤ (findH l nm).length ∧ oneH l nm = ([], false, 140)) := by
  unfold oneH
  rcases findH l nm with _ | ⟨u, _ | ⟨u2, r⟩⟩
  · exact .inl ⟨rfl, rfl⟩
  · exact .inr (.inl ⟨rfl, u, rfl, rfl⟩)
  · exact .inr (.inr ⟨by simp, rfl⟩)
theorem frame_many (l : List Pr) (h : 1 < (findH l nCoding).length + (findH l nLength).length) : frameH l = (0, 0, 140) := by
  rcases one_of_len l nCoding with ⟨h0, e0⟩ | ⟨h0, v0, _, e0⟩ | ⟨h0, e0⟩
  · rcases one_of_len l nLength with ⟨h1, e1⟩ | ⟨h1, v1, _, e1⟩ | ⟨h1, e1⟩
    · omega
    · omega
    · exact fr_err1 e1
  · rcases one_of_len l nLength with ⟨h1, e1⟩ | ⟨h1, v1, _, e1⟩ | ⟨h1, e1⟩
    · omega
    · exact fr_both e0 e1
    · exact fr_err1 e1
  · exact fr_err0 e0
theorem frame_few (l : List Pr) (h : (findH l nCoding).length + (findH l nLength).length = 0) : frameH l = (0, 0, 0) := by
  rcases one_of_len l nCoding with ⟨h0, e0⟩ | ⟨h0, v0, _, e0⟩ | ⟨h0, e0⟩
  · rcases one_of_len l nLength with ⟨h1, e1⟩ | ⟨h1, v1, _, e1⟩ | ⟨h1, e1⟩
    · exact fr_none e0 e1
    · omega
    · omega
  · omega
  · omega
theorem frame_other (l : List Pr) (p : Pr) (h0 : As.lows p.name ≠ As.lows nCoding) (h1 : As.lows p.name ≠ As.lows nLength) : frameH (l ++ [p]) = frameH l := by
  have e0 : oneH (l ++ [p]) nCoding = oneH l nCoding := by unfold oneH; rw [find_snoc, if_neg h0, List.append_nil]
  have e1 : oneH (l ++ [p]) nLength = oneH l nLength := by unfold oneH; rw [find_snoc, if_neg h1, List.append_nil]
  unfold frameH
  rw [e0, e1]
theorem not_two {x : List UInt8} (h0 : As.lows x = As.lows nCoding) : As.lows x ≠ As.lows nLength := by
  rw [h0]
  decide +kernel
theorem frame_more (l : List Pr) (p : Pr) (h : 0 < (findH l nCoding).length + (findH l nLength).length) (hp : As.lows p.name = As.lows nCoding ∨ As.lows p.name = As.lows nLength) : frameH (l ++ [p]) = (0, 0, 140) := by
  apply frame_many
  rw [find_snoc, find_snoc, List.length_append, List.length_append]
  rcases hp with hp | hp
  · rw [if_pos hp]; simp only [List.length_cons, List.length_nil]; omega
  · rw [if_pos hp]; simp only [List.length_cons, List.length_nil]; omega
theorem frame_first0 (l : List Pr) (p : Pr) (h : (findH l nCoding).length + (findH l nLength).length = 0) (hp : As.lows p.name = As.lows nCoding) : frameH (l ++ [p]) = (0, 0, 140) ∨ frameH (l ++ [p]) = (2, 0, 0) := by
  have f0 : findH l nCoding = [] := List.eq_nil_of_length_eq_zero (by omega)
  have f1 : findH l nLength = [] := List.eq_nil_of_length_eq_zero (by omega)
  have e0 : oneH (l ++ [p]) nCoding = (p.value, true, 0) := by unfold oneH; rw [find_snoc, if_pos hp, f0]; rfl
  have e1 : oneH (l ++ [p]) nLength = ([], false, 0) := by unfold oneH; rw [find_snoc, if_neg (not_two hp), f1]; rfl
  cases hc : isChunked p.value with
  | true => exact .inr (fr_coding e0 hc e1)
  | false => exact .inl (fr_bad0 e0 hc)
theorem frame_first1 (l : List Pr) (p : Pr) (h : (findH l nCoding).length + (findH l nLength).length = 0) (hp : As.lows p.name = As.lows nLength) : frameH (l ++ [p]) = (0, 0, 140) ∨ ∃ n : Int, frameH (l ++ [p]) = (1, n, 0) := by
  have f0 : findH l nCoding = [] := List.eq_nil_of_length_eq_zero (by omega)
  have f1 : findH l nLength = [] := List.eq_nil_of_length_eq_zero (by omega)
  have e0 : oneH (l ++ [p]) nCoding = ([], false, 0) := by unfold oneH; rw [find_snoc, if_neg (fun e => not_two e hp), f0]; rfl
  have e1 : oneH (l ++ [p]) nLength = (p.value, true, 0) := by unfold oneH; rw [find_snoc, if_pos hp, f1]; rfl
  cases hc : Nmb.readN p.value with
  | some n => exact .inr ⟨n, fr_ok1 e0 e1 hc⟩
  | none => exact .inl (fr_bad1 e1 hc)
end Hx
end Go.Proofs.Ytfdhogaknlabkaa
