/-
  Texts of one seat, put together: LeaC, LeaM, LeaN, LeaO, LexB.
-/
import Derived.Test.YtbjgfaflikgobaaDoorH10
import Derived.Test.YtbjgfaflikgobaaDoorH08
import Derived.Test.YtbjgfaflikgobaaDoorH05
import Derived.Maps.OwnSet
import Derived.Maps.OwnOps
import Derived.Test.YtbjgfaflikgobaaDoorH09
import Derived.Test.YtbjgfaflikgobaaDoorH06
import Derived.Deep.LoopGhost
import Derived.Test.YtbjgfaflikgobaaDoorH07
namespace Go.Proofs.YtbjgfaflikgobaaDoor
open Go.RowKit Go.Maps Go.WideMaps
namespace Hx
open Lx Tx Nmb Es
set_option linter.unusedVariables false
theorem law9 : Keyed Tryd.prog 9 := string_keyed Tryd.underlying9
theorem zero9 (w : World) : (zeroValue 3).run Tryd.prog w = .ok (.int .i64 0) w := by kernel_rfl
/-- What the map of names holds after some attributes. -/
structure Seen (D : DataW Unit) (l : List Pr) : Prop where
  has : ∀ z : List UInt8, Maps.has D (.string z) = hasL l z
  size : Maps.size D = dis [] l
theorem Seen.nil : Seen (.map []) [] := ⟨fun _ => rfl, rfl⟩
theorem Seen.next {D : DataW Unit} {l : List Pr} (h : Seen D l) (ht : Maps.Tidy D) (p : Pr) (d : DataW Unit) : Seen (D.put (.string p.name) d) (l ++ [p]) := by
  refine ⟨fun z => ?_, ?_⟩
  · have e : hasL (l ++ [p]) z = (hasL l z || decide (p.name = z)) := by simp [hasL]
    rw [e]
    by_cases hz : p.name = z
    · subst hz
      rw [Maps.has_put_same ht.isMap (by simp [WideAt.IsKeyLit])]
      simp
    · rw [Maps.has_put_other (fun e => hz (by injection e with e; exact e.symm)), h.has]
      simp [hz]
  · rw [Maps.size_put ht, h.has, h.size, dis_snoc, List.nil_append]
    cases hasL l p.name <;> simp
theorem twice_dis (l : List Pr) : decide (dis [] l < l.length) = !fresh [] l := by
  obtain ⟨h1, h2⟩ := dis_le l []
  cases hf : fresh [] l with
  | true => have := h2.2 hf; exact decide_eq_false (by omega)
  | false =>
    refine decide_eq_true ?_
    rcases Nat.lt_or_eq_of_le h1 with h | h
    · omega
    · have := h2.1 h; rw [hf] at this; cases this
theorem box_cell9 {w w1 : World} {cs : Array Value} {T : TypeId} (hb : Below (w.alloc (.cells cs T)).heap.size (w.alloc (.cells cs T)) w1) (i : Nat) (v : Value) (h : cs[i]? = some v) : w1.cell? ⟨w.heap.size, i, none⟩ = some v ∧ w.heap.size < w1.heap.size := by
  have hs := hb.size
  simp at hs
  refine ⟨?_, by omega⟩
  rw [hb.cell (p := ⟨w.heap.size, i, none⟩) (by simp)]
  simp [h]
def zPr9 : Array Value := #[.string ⟨#[]⟩, .string ⟨#[]⟩]
set_option maxHeartbeats 8000000 in
set_option maxRecDepth 100000 in
theorem twice9 (A : Option Addr) (n cp : Nat) (l : List Pr) (w : World) (hr : RdC PrC w w.heap.size A l) (hn : l.length = n) (hcp : n ≤ cp) (hm : n ≤ 1000000) (hsz : ∀ p ∈ l, p.name.length ≤ 1000000) (q : Bool) (h : (!fresh [] l) = q) :
    Calls Tryd.prog 38 #[.slice A n cp] w fun e w' => e = .returned (.bool q) ∧ Below w.heap.size w w' := by
  have hmm := @run_makeMap Tryd.prog
  have HR := Lib.hid hr
  have HN := Lib.hid hn
  have HM := Lib.hid hm
  have HSZ := Lib.hid hsz
  have HQ : Hid (∀ D, Seen D l → decide (Maps.size D < n) = q) := Lib.hid fun D hD => by
    rw [hD.size, ← hn, twice_dis, h]
  clear hr hn h hsz
  go_enter Tryd.func38, Tryd.ntmps38
  go_wp2_with fail
  go_loopw [9] (fun i wr => ∃ (k : Nat) (D : DataW Unit), k ≤ n ∧ i = .int .i64 k ∧ wr.ownsMap Tryd.prog 9 (plainElem Tryd.prog 3) w.heap.size k D ∧ Seen D (l.take k) ∧ Below w.heap.size w wr) (fun i _ => n - (intOf i).toNat)
  case atStart => exact ⟨0, .map [], Nat.zero_le _, rfl, World.ownsMap_made _ _ _ _, Seen.nil, (Below.refl _ _).alloc (Nat.le_refl _) _⟩
  case round =>
    obtain ⟨k, D, hk, rfl, hown, hseen, hbw⟩ := hrel
    have hm := HM.out
    have HBW := Lib.hid hbw
    by_cases hlt : k < n
    · have hk1 : k < l.length := by rw [HN.out]; exact hlt
      obtain ⟨b0, off, rfl, hbB, hc⟩ := (HR.out.below hbw) (by omega)
      obtain ⟨cs, ⟨x, y, rfl, hx, hy⟩, hcell⟩ := hc k hk1
      have c0 : wr.cell? ⟨b0, off + k * 2, none⟩ = some (.string x) := hcell 0 (by simp)
      have c1 : wr.cell? ⟨b0, off + k * 2 + 1, none⟩ = some (.string y) := hcell 1 (by simp)
      have hz := HSZ.out _ (List.getElem_mem hk1)
      rw [← hx, ba_l] at hz
      have hkey : keyOf Tryd.prog 9 (.string x) = some (.string x.data.toList) := keyOf_string_mk Tryd.underlying9 (by unfold maxLen; omega)
      have bk : (0 : Int) ≤ (k : Int) ∧ (k : Int) < (n : Int) := by omega
      have bc : (k : Int) ≤ (cp : Int) := by omega
      have HNEW : Hid (∀ d, Seen (D.put (.string x.data.toList) d) (l.take (k + 1))) := Lib.hid fun d => by
        have := hseen.next (hown.tidy law9) (l[k]'hk1) d
        rw [← List.take_succ_eq_append_getElem hk1, ← hx] at this
        exact this
      have HOWN := Lib.hid hown
      have HKEY := Lib.hid hkey
      clear hbw hc hcell hx hy hz hk1 hseen hown hkey
      go_wp2_with (first
        | (refine wpList_store_row rfl _ _ _ rfl wr.heap.size #[.string x, .string y] rfl rfl 37 zPr9 (heap_alloc_new _ _) sizePr rfl (onePr x y) ?_; rw [World.setRow_alloc_new])
        | (at_lookup; refine wpList_lookup_own_int _ rfl _ _ 80 rfl 9 3 .i64 law9 Tryd.underlying80 Tryd.underlying3 (zero9 _) w.heap.size k D rfl (HOWN.out.alloc _) _ _ rfl HKEY.out ?_; intro c hat hwc; clear hat hwc)
        | (at_mapUpdate; refine wpList_mapUpdate_own _ rfl _ _ _ 80 rfl 9 3 law9 Tryd.underlying80 _ w.heap.size k _ rfl (HOWN.out.alloc _) (by unfold maxLen; omega) _ _ _ rfl rfl HKEY.out _ [] (plainElem_int Tryd.underlying3 (wrap64_wf _)) ?_; intro w2 hown2 hgr2; have HO2 := Lib.hid hown2; have HG2 := Lib.hid hgr2; clear hown2 hgr2)
        | fail)
      go_roundw
      case rel => exact ⟨k + 1, _, by omega, by go_num, HO2.out, HNEW.out _, (HBW.out.alloc HBW.out.size _).grown HG2.out (Nat.le_trans HBW.out.size (by simp)) (fun j hj => by cases hj; exact Nat.le_refl _)⟩
      case measure => simp [intOf]; omega
    · obtain rfl : k = n := by omega
      have hq := HQ.out D (by rwa [List.take_of_length_le (by rw [HN.out]; exact Nat.le_refl _)] at hseen)
      have HOWN := Lib.hid hown
      clear hseen hbw hown
      have tok1 : True := trivial
      go_wp2_with (first
        | (have _t := tok1; at_len; refine wpList_len_own _ rfl _ 80 rfl 9 3 Tryd.underlying80 _ w.heap.size k D rfl HOWN.out ?_; clear _t tok1)
        | fail)
      go_ret
      exact ⟨rfl, HBW.out⟩
theorem all_snoc9 {l : List Pr} {k : Nat} (h : k < l.length) (f : Pr → Bool) : (l.take (k + 1)).all f = ((l.take k).all f && f (l[k]'h)) := by
  rw [List.take_succ_eq_append_getElem h, List.all_append]
  simp
def goodP (p : Pr) : Bool := fullL p.name && okT p.value
theorem attrsOk_eq (l : List Pr) : attrsOk l = (fresh [] l && l.all goodP && decide (l.length ≤ 16)) := by unfold attrsOk; rw [attrsF_fresh]; rfl
set_option maxHeartbeats 8000000 in
set_option maxRecDepth 100000 in
theorem mayA9q (A : Option Addr) (n cp : Nat) (l : List Pr) (w : World) (hr : RdC PrC w w.heap.size A l) (hn : l.length = n) (hcp : n ≤ cp) (hm : n ≤ 1000000) (hsz : ∀ p ∈ l, p.name.length ≤ 1000000 ∧ p.value.length ≤ 1000000) (q : Bool) (h : attrsOk l = q) :
    Calls Tryd.prog 27 #[.slice A n cp] w fun e w' => e = .returned (.bool q) ∧ Below w.heap.size w w' := by
  rw [attrsOk_eq, hn] at h
  by_cases h16 : n ≤ 16
  · rw [decide_eq_true h16, Bool.and_true] at h
    have g16 : decide ((16 : Int) < (n : Int)) = false := decide_eq_false (by omega)
    cases hf : fresh [] l with
    | false =>
      obtain rfl : false = q := by rw [← h, hf]; rfl
      have HC : Hid (Calls Tryd.prog 38 #[.slice A n cp] w fun e w' => e = .returned (.bool true) ∧ Below w.heap.size w w') := Lib.hid (twice9 A n cp l w hr hn hcp hm (fun p hp => (hsz p hp).1) true (by rw [hf]; rfl))
      clear hr hn hcp hsz h hf
      go_enter Tryd.func27, Tryd.ntmps27
      go_wp2_with (first
        | (go_at_call 38; (with_reducible refine (HC.out).mono ?_); rintro e1 w1 ⟨rfl, hb1⟩)
        | fail)
      go_ret
      exact ⟨rfl, hb1⟩
    | true =>
      have HC : Hid (Calls Tryd.prog 38 #[.slice A n cp] w fun e w' => e = .returned (.bool false) ∧ Below w.heap.size w w') := Lib.hid (twice9 A n cp l w hr hn hcp hm (fun p hp => (hsz p hp).1) false (by rw [hf]; rfl))
      rw [hf, Bool.true_and] at h
      have HR := Lib.hid hr
      have HN := Lib.hid hn
      have HH := Lib.hid h
      have HSZ := Lib.hid hsz
      clear hr hn hsz h hf
      go_enter Tryd.func27, Tryd.ntmps27
      go_wp2_with (first
        | (go_at_call 38; (with_reducible refine (HC.out).mono ?_); rintro e1 w1 ⟨rfl, hb1⟩; have HB1 := Lib.hid hb1; clear hb1)
        | fail)
      go_loopw [14] (fun i wr => ∃ k : Nat, k ≤ n ∧ i = .int .i64 k ∧ (l.take k).all goodP = true ∧ Below w.heap.size w wr) (fun i _ => n - (intOf i).toNat)
      case atStart => exact ⟨0, Nat.zero_le _, rfl, rfl, HB1.out⟩
      case round =>
        obtain ⟨k, hk, rfl, hall, hbw⟩ := hrel
        have HBW := Lib.hid hbw
        by_cases hlt : k < n
        · have hk1 : k < l.length := by rw [HN.out]; exact hlt
          obtain ⟨b0, off, rfl, hbB, hc⟩ := (HR.out.below hbw) (by omega)
          obtain ⟨cs, ⟨x, y, rfl, hx, hy⟩, hcell⟩ := hc k hk1
          have c0 : wr.cell? ⟨b0, off + k * 2, none⟩ = some (.string x) := hcell 0 (by simp)
          have c1 : wr.cell? ⟨b0, off + k * 2 + 1, none⟩ = some (.string y) := hcell 1 (by simp)
          have hz := HSZ.out _ (List.getElem_mem hk1)
          rw [← hx, ← hy, ba_l, ba_l] at hz
          have HXS := Lib.hid hz.1
          have HYS := Lib.hid hz.2
          have bk : (0 : Int) ≤ (k : Int) ∧ (k : Int) < (n : Int) := by omega
          have bc : (k : Int) ≤ (cp : Int) := by omega
          have hg : goodP (l[k]'hk1) = (fullL x.data.toList && okT y.data.toList) := by unfold goodP; rw [← hx, ← hy]
          have hbad : goodP (l[k]'hk1) = false → l.all goodP = false := fun e => List.all_eq_false.2 ⟨_, List.getElem_mem hk1, by rw [e]; decide⟩
          have hnx : goodP (l[k]'hk1) = true → (l.take (k + 1)).all goodP = true := fun e => by rw [all_snoc9 hk1, hall, e]; rfl
          have HBO : Hid (∀ o, Below w.heap.size w (wr.alloc o)) := Lib.hid fun o => hbw.alloc hbw.size o
          cases hf : fullL x.data.toList with
          | false =>
            have HF := Lib.hid hf
            obtain rfl : false = q := by rw [← HH.out]; exact (hbad (by rw [hg, hf]; rfl)).symm
            clear hbw hc hcell hx hy hz hk1 hall hg hbad hnx hf
            go_wp2_with (first
              | (refine wpList_store_row rfl _ _ _ rfl wr.heap.size #[.string x, .string y] rfl rfl 37 zPr9 (heap_alloc_new _ _) sizePr rfl (onePr x y) ?_; rw [World.setRow_alloc_new])
              | (go_at_call 26; (with_reducible refine (full9q x _ HXS.out false HF.out).mono ?_); rintro e2 w2 ⟨rfl, hb2⟩)
              | fail)
            go_ret
            exact ⟨rfl, stp (HBO.out _) hb2⟩
          | true =>
            have HF := Lib.hid hf
            cases hv : okT y.data.toList with
            | false =>
              obtain ⟨er, her⟩ : ∃ er, chkE y = er := ⟨_, rfl⟩
              have HCK := Lib.hid her
              have g0 : (er != 0) = true := by rw [← her]; simpa using chk9_bad hv
              obtain rfl : false = q := by rw [← HH.out]; exact (hbad (by rw [hg, hf, hv]; rfl)).symm
              clear hbw hc hcell hx hy hz hk1 hall hg hbad hnx hf hv her
              go_wp2_with (first
                | (refine wpList_store_row rfl _ _ _ rfl wr.heap.size #[.string x, .string y] rfl rfl 37 zPr9 (heap_alloc_new _ _) sizePr rfl (onePr x y) ?_; rw [World.setRow_alloc_new])
                | (go_at_call 26; (with_reducible refine (full9q x _ HXS.out true HF.out).mono ?_); rintro e2 w2 ⟨rfl, hb2⟩; have d1 := (box_cell9 hb2 1 (.string y) rfl).1; have HB2 : Hid (Below w.heap.size w w2) := Lib.hid (stp (HBO.out _) hb2); clear hb2)
                | (go_at_call 28; (with_reducible refine (check5 y _ HYS.out er HCK.out).mono ?_); rintro e3 w3 ⟨rfl, hb3⟩)
                | fail)
              go_ret
              exact ⟨rfl, stp HB2.out hb3⟩
            | true =>
              have HCK : Hid (chkE y = 0) := Lib.hid (chk9_ok hv)
              have HV := Lib.hid (hnx (by rw [hg, hf, hv]; rfl))
              clear hbw hc hcell hx hy hz hk1 hall hg hbad hnx hf hv
              go_wp2_with (first
                | (refine wpList_store_row rfl _ _ _ rfl wr.heap.size #[.string x, .string y] rfl rfl 37 zPr9 (heap_alloc_new _ _) sizePr rfl (onePr x y) ?_; rw [World.setRow_alloc_new])
                | (go_at_call 26; (with_reducible refine (full9q x _ HXS.out true HF.out).mono ?_); rintro e2 w2 ⟨rfl, hb2⟩; have d1 := (box_cell9 hb2 1 (.string y) rfl).1; have HB2 : Hid (Below w.heap.size w w2) := Lib.hid (stp (HBO.out _) hb2); clear hb2)
                | (go_at_call 28; (with_reducible refine (check5 y _ HYS.out 0 HCK.out).mono ?_); rintro e3 w3 ⟨rfl, hb3⟩; have HB3 : Hid (Below w.heap.size w w3) := Lib.hid (stp HB2.out hb3); clear hb3)
                | fail)
              go_roundw
              case rel => exact ⟨k + 1, by omega, by go_num, HV.out, HB3.out⟩
              case measure => simp [intOf]; omega
        · obtain rfl : k = n := by omega
          obtain rfl : true = q := by
            rw [← HH.out]
            rwa [List.take_of_length_le (by rw [HN.out]; exact Nat.le_refl _), eq_comm] at hall
          clear hall hbw
          go_wp2_with fail
          go_ret
          exact ⟨rfl, HBW.out⟩
  · rw [decide_eq_false h16, Bool.and_false] at h
    obtain rfl : false = q := h
    have g16 : decide ((16 : Int) < (n : Int)) = true := decide_eq_true (by omega)
    clear hr hn hcp hsz
    go_enter Tryd.func27, Tryd.ntmps27
    go_wp2_with fail
    go_ret
    exact ⟨rfl, Below.refl _ _⟩
end Hx
end Go.Proofs.YtbjgfaflikgobaaDoor
namespace Go.Proofs.YtbjgfaflikgobaaDoor
open Go.RowKit
namespace Hx
open Lx Tx Nmb Es
set_option linter.unusedVariables false
set_option maxHeartbeats 4000000 in
set_option maxRecDepth 100000 in
theorem mayq_1 (t : Tk) (x u : ByteArray) (A : Option Addr) (cp : Nat) (w : World) (ht : TkAt t x u A cp w) (hk : t.kind = 1) (q : Bool) (h : mayT t = q) :
    Calls Tryd.prog 16 #[TkV t x u A cp] w fun e w' => e = .returned (.bool q) ∧ Below w.heap.size w w' := by
  have HB : Hid (∀ o, Below w.heap.size w (w.alloc o)) := Lib.hid fun o => (Below.refl _ _).alloc (Nat.le_refl _) o
  have HTK : Hid (∀ W, Below w.heap.size w W → TkAt t x u A cp W) := Lib.hid fun W hW => ht.on hW
  have HN : Hid (x.size ≤ 1000000) := ht.ns
  have HU : Hid (u.size ≤ 1000000) := ht.us
  unfold mayT at h
  rw [if_pos (by rw [hk]; decide)] at h
  obtain ⟨n, hn⟩ : ∃ n, t.attrs.length = n := ⟨_, rfl⟩
  have HNL := Lib.hid hn
  obtain ⟨ff, hf⟩ : ∃ ff, fullL x.data.toList = ff := ⟨_, rfl⟩
  obtain ⟨aa, ha⟩ : ∃ aa, attrsOk t.attrs = aa := ⟨_, rfl⟩
  obtain ⟨ee, hue⟩ : ∃ ee, u.toList.isEmpty = ee := ⟨_, rfl⟩
  rw [← ht.name, hf, ha, ← ht.text, ← emp_l, hue] at h
  have HF := Lib.hid hf
  have HA := Lib.hid ha
  unfold TkV
  rw [hk, hn]
  clear ht hf ha hn hk
  cases ff with
  | false =>
    obtain rfl : false = q := h
    go_enter Tryd.func16, Tryd.ntmps16
    go_wp2_with (first
      | (go_at_call 26; (with_reducible refine (full9q x _ HN.out false HF.out).mono ?_); rintro e1 w1 ⟨rfl, hb1⟩; have HB1 : Hid (Below w.heap.size w w1) := Lib.hid (stp (HB.out _) hb1); have c2 := (box_cell hb1 2 (.slice A n cp) rfl).1; have c3 := (box_cell hb1 3 (.string u) rfl).1; have hlt1 := (box_cell hb1 3 (.string u) rfl).2; clear hb1)
      | fail)
    go_ret
    exact ⟨rfl, HB1.out⟩
  | true =>
    cases aa with
    | false =>
      obtain rfl : false = q := h
      go_enter Tryd.func16, Tryd.ntmps16
      go_wp2_with (first
        | (go_at_call 26; (with_reducible refine (full9q x _ HN.out true HF.out).mono ?_); rintro e1 w1 ⟨rfl, hb1⟩; have HB1 : Hid (Below w.heap.size w w1) := Lib.hid (stp (HB.out _) hb1); have c2 := (box_cell hb1 2 (.slice A n cp) rfl).1; have c3 := (box_cell hb1 3 (.string u) rfl).1; have hlt1 := (box_cell hb1 3 (.string u) rfl).2; clear hb1)
        | (go_at_call 27; (with_reducible refine (mayA9q A n cp t.attrs _ (HTK.out _ HB1.out).attrs HNL.out (HNL.out ▸ (HTK.out _ HB1.out).le) (HNL.out ▸ (HTK.out _ HB1.out).al) (HTK.out _ HB1.out).sz false HA.out).mono ?_); rintro e2 w2 ⟨rfl, hb2⟩; have HB2 : Hid (Below w.heap.size w w2) := Lib.hid (stp HB1.out hb2); have d3 := (hb2.cell (p := ⟨w.heap.size, 3, none⟩) hlt1).trans c3; clear hb2)
        | fail)
      go_ret
      exact ⟨rfl, HB2.out⟩
    | true =>
      obtain rfl : ee = q := h
      go_enter Tryd.func16, Tryd.ntmps16
      go_wp2_with (first
        | (go_at_call 26; (with_reducible refine (full9q x _ HN.out true HF.out).mono ?_); rintro e1 w1 ⟨rfl, hb1⟩; have HB1 : Hid (Below w.heap.size w w1) := Lib.hid (stp (HB.out _) hb1); have c2 := (box_cell hb1 2 (.slice A n cp) rfl).1; have c3 := (box_cell hb1 3 (.string u) rfl).1; have hlt1 := (box_cell hb1 3 (.string u) rfl).2; clear hb1)
        | (go_at_call 27; (with_reducible refine (mayA9q A n cp t.attrs _ (HTK.out _ HB1.out).attrs HNL.out (HNL.out ▸ (HTK.out _ HB1.out).le) (HNL.out ▸ (HTK.out _ HB1.out).al) (HTK.out _ HB1.out).sz true HA.out).mono ?_); rintro e2 w2 ⟨rfl, hb2⟩; have HB2 : Hid (Below w.heap.size w w2) := Lib.hid (stp HB1.out hb2); have d3 := (hb2.cell (p := ⟨w.heap.size, 3, none⟩) hlt1).trans c3; clear hb2)
        | fail)
      go_ret
      exact ⟨rfl, HB2.out⟩
set_option maxHeartbeats 4000000 in
set_option maxRecDepth 100000 in
theorem mayq_3 (t : Tk) (x u : ByteArray) (A : Option Addr) (cp : Nat) (w : World) (ht : TkAt t x u A cp w) (hk : t.kind = 3) (q : Bool) (h : mayT t = q) :
    Calls Tryd.prog 16 #[TkV t x u A cp] w fun e w' => e = .returned (.bool q) ∧ Below w.heap.size w w' := by
  have HB : Hid (∀ o, Below w.heap.size w (w.alloc o)) := Lib.hid fun o => (Below.refl _ _).alloc (Nat.le_refl _) o
  have HTK : Hid (∀ W, Below w.heap.size w W → TkAt t x u A cp W) := Lib.hid fun W hW => ht.on hW
  have HN : Hid (x.size ≤ 1000000) := ht.ns
  have HU : Hid (u.size ≤ 1000000) := ht.us
  unfold mayT at h
  rw [if_pos (by rw [hk]; decide)] at h
  obtain ⟨n, hn⟩ : ∃ n, t.attrs.length = n := ⟨_, rfl⟩
  have HNL := Lib.hid hn
  obtain ⟨ff, hf⟩ : ∃ ff, fullL x.data.toList = ff := ⟨_, rfl⟩
  obtain ⟨aa, ha⟩ : ∃ aa, attrsOk t.attrs = aa := ⟨_, rfl⟩
  obtain ⟨ee, hue⟩ : ∃ ee, u.toList.isEmpty = ee := ⟨_, rfl⟩
  rw [← ht.name, hf, ha, ← ht.text, ← emp_l, hue] at h
  have HF := Lib.hid hf
  have HA := Lib.hid ha
  unfold TkV
  rw [hk, hn]
  clear ht hf ha hn hk
  cases ff with
  | false =>
    obtain rfl : false = q := h
    go_enter Tryd.func16, Tryd.ntmps16
    go_wp2_with (first
      | (go_at_call 26; (with_reducible refine (full9q x _ HN.out false HF.out).mono ?_); rintro e1 w1 ⟨rfl, hb1⟩; have HB1 : Hid (Below w.heap.size w w1) := Lib.hid (stp (HB.out _) hb1); have c2 := (box_cell hb1 2 (.slice A n cp) rfl).1; have c3 := (box_cell hb1 3 (.string u) rfl).1; have hlt1 := (box_cell hb1 3 (.string u) rfl).2; clear hb1)
      | fail)
    go_ret
    exact ⟨rfl, HB1.out⟩
  | true =>
    cases aa with
    | false =>
      obtain rfl : false = q := h
      go_enter Tryd.func16, Tryd.ntmps16
      go_wp2_with (first
        | (go_at_call 26; (with_reducible refine (full9q x _ HN.out true HF.out).mono ?_); rintro e1 w1 ⟨rfl, hb1⟩; have HB1 : Hid (Below w.heap.size w w1) := Lib.hid (stp (HB.out _) hb1); have c2 := (box_cell hb1 2 (.slice A n cp) rfl).1; have c3 := (box_cell hb1 3 (.string u) rfl).1; have hlt1 := (box_cell hb1 3 (.string u) rfl).2; clear hb1)
        | (go_at_call 27; (with_reducible refine (mayA9q A n cp t.attrs _ (HTK.out _ HB1.out).attrs HNL.out (HNL.out ▸ (HTK.out _ HB1.out).le) (HNL.out ▸ (HTK.out _ HB1.out).al) (HTK.out _ HB1.out).sz false HA.out).mono ?_); rintro e2 w2 ⟨rfl, hb2⟩; have HB2 : Hid (Below w.heap.size w w2) := Lib.hid (stp HB1.out hb2); have d3 := (hb2.cell (p := ⟨w.heap.size, 3, none⟩) hlt1).trans c3; clear hb2)
        | fail)
      go_ret
      exact ⟨rfl, HB2.out⟩
    | true =>
      obtain rfl : ee = q := h
      go_enter Tryd.func16, Tryd.ntmps16
      go_wp2_with (first
        | (go_at_call 26; (with_reducible refine (full9q x _ HN.out true HF.out).mono ?_); rintro e1 w1 ⟨rfl, hb1⟩; have HB1 : Hid (Below w.heap.size w w1) := Lib.hid (stp (HB.out _) hb1); have c2 := (box_cell hb1 2 (.slice A n cp) rfl).1; have c3 := (box_cell hb1 3 (.string u) rfl).1; have hlt1 := (box_cell hb1 3 (.string u) rfl).2; clear hb1)
        | (go_at_call 27; (with_reducible refine (mayA9q A n cp t.attrs _ (HTK.out _ HB1.out).attrs HNL.out (HNL.out ▸ (HTK.out _ HB1.out).le) (HNL.out ▸ (HTK.out _ HB1.out).al) (HTK.out _ HB1.out).sz true HA.out).mono ?_); rintro e2 w2 ⟨rfl, hb2⟩; have HB2 : Hid (Below w.heap.size w w2) := Lib.hid (stp HB1.out hb2); have d3 := (hb2.cell (p := ⟨w.heap.size, 3, none⟩) hlt1).trans c3; clear hb2)
        | fail)
      go_ret
      exact ⟨rfl, HB2.out⟩
set_option maxHeartbeats 4000000 in
set_option maxRecDepth 100000 in
theorem mayq_2 (t : Tk) (x u : ByteArray) (A : Option Addr) (cp : Nat) (w : World) (ht : TkAt t x u A cp w) (hk : t.kind = 2) (q : Bool) (h : mayT t = q) :
    Calls Tryd.prog 16 #[TkV t x u A cp] w fun e w' => e = .returned (.bool q) ∧ Below w.heap.size w w' := by
  have HB : Hid (∀ o, Below w.heap.size w (w.alloc o)) := Lib.hid fun o => (Below.refl _ _).alloc (Nat.le_refl _) o
  have HTK : Hid (∀ W, Below w.heap.size w W → TkAt t x u A cp W) := Lib.hid fun W hW => ht.on hW
  have HN : Hid (x.size ≤ 1000000) := ht.ns
  have HU : Hid (u.size ≤ 1000000) := ht.us
  unfold mayT at h
  rw [if_neg (by rw [hk]; decide), if_pos hk] at h
  obtain ⟨n, hn⟩ : ∃ n, t.attrs.length = n := ⟨_, rfl⟩
  obtain ⟨ff, hf⟩ : ∃ ff, fullL x.data.toList = ff := ⟨_, rfl⟩
  obtain ⟨ee, hue⟩ : ∃ ee, u.toList.isEmpty = ee := ⟨_, rfl⟩
  have h0 : t.attrs.isEmpty = decide (n = 0) := by rw [← hn, Bool.eq_iff_iff, List.isEmpty_iff, decide_eq_true_eq, List.length_eq_zero_iff]
  rw [← ht.name, hf, h0, ← ht.text, ← emp_l, hue] at h
  have HF := Lib.hid hf
  unfold TkV
  rw [hk, hn]
  clear ht hf hn hk h0
  cases ff with
  | false =>
    obtain rfl : false = q := h
    go_enter Tryd.func16, Tryd.ntmps16
    go_wp2_with (first
      | (go_at_call 26; (with_reducible refine (full9q x _ HN.out false HF.out).mono ?_); rintro e1 w1 ⟨rfl, hb1⟩; have HB1 : Hid (Below w.heap.size w w1) := Lib.hid (stp (HB.out _) hb1); have c2 := (box_cell hb1 2 (.slice A n cp) rfl).1; have c3 := (box_cell hb1 3 (.string u) rfl).1; have hlt1 := (box_cell hb1 3 (.string u) rfl).2; clear hb1)
      | fail)
    go_ret
    exact ⟨rfl, HB1.out⟩
  | true =>
    by_cases e0 : n = 0
    · subst e0
      obtain rfl : ee = q := h
      go_enter Tryd.func16, Tryd.ntmps16
      go_wp2_with (first
        | (go_at_call 26; (with_reducible refine (full9q x _ HN.out true HF.out).mono ?_); rintro e1 w1 ⟨rfl, hb1⟩; have HB1 : Hid (Below w.heap.size w w1) := Lib.hid (stp (HB.out _) hb1); have c2 := (box_cell hb1 2 (.slice A 0 cp) rfl).1; have c3 := (box_cell hb1 3 (.string u) rfl).1; have hlt1 := (box_cell hb1 3 (.string u) rfl).2; clear hb1)
        | fail)
      go_ret
      exact ⟨rfl, HB1.out⟩
    · rw [decide_eq_false e0] at h
      obtain rfl : false = q := h
      have g0 : ((n : Int) == 0) = false := by simp; omega
      go_enter Tryd.func16, Tryd.ntmps16
      go_wp2_with (first
        | (go_at_call 26; (with_reducible refine (full9q x _ HN.out true HF.out).mono ?_); rintro e1 w1 ⟨rfl, hb1⟩; have HB1 : Hid (Below w.heap.size w w1) := Lib.hid (stp (HB.out _) hb1); have c2 := (box_cell hb1 2 (.slice A n cp) rfl).1; have c3 := (box_cell hb1 3 (.string u) rfl).1; have hlt1 := (box_cell hb1 3 (.string u) rfl).2; clear hb1)
        | fail)
      go_ret
      exact ⟨rfl, HB1.out⟩
set_option maxHeartbeats 4000000 in
set_option maxRecDepth 100000 in
theorem mayq_4 (t : Tk) (x u : ByteArray) (A : Option Addr) (cp : Nat) (w : World) (ht : TkAt t x u A cp w) (hk : t.kind = 4) (q : Bool) (h : mayT t = q) :
    Calls Tryd.prog 16 #[TkV t x u A cp] w fun e w' => e = .returned (.bool q) ∧ Below w.heap.size w w' := by
  have HB : Hid (∀ o, Below w.heap.size w (w.alloc o)) := Lib.hid fun o => (Below.refl _ _).alloc (Nat.le_refl _) o
  have HTK : Hid (∀ W, Below w.heap.size w W → TkAt t x u A cp W) := Lib.hid fun W hW => ht.on hW
  have HN : Hid (x.size ≤ 1000000) := ht.ns
  have HU : Hid (u.size ≤ 1000000) := ht.us
  unfold mayT at h
  rw [if_neg (by rw [hk]; decide), if_neg (by rw [hk]; decide), if_pos hk] at h
  obtain ⟨n, hn⟩ : ∃ n, t.attrs.length = n := ⟨_, rfl⟩
  obtain ⟨xe, hxe⟩ : ∃ xe, x.toList.isEmpty = xe := ⟨_, rfl⟩
  obtain ⟨ue, hue⟩ : ∃ ue, u.toList.isEmpty = ue := ⟨_, rfl⟩
  have h0 : t.attrs.isEmpty = decide (n = 0) := by rw [← hn, Bool.eq_iff_iff, List.isEmpty_iff, decide_eq_true_eq, List.length_eq_zero_iff]
  obtain ⟨ok, hok⟩ : ∃ ok, okT u.data.toList = ok := ⟨_, rfl⟩
  have hok2 := hok
  rw [ht.text] at hok2
  rw [hok2] at h
  rw [← ht.name, ← emp_l, hxe, h0, ← ht.text, ← emp_l, hue] at h
  unfold TkV
  rw [hk, hn]
  clear ht hn hk h0 hok2
  cases xe with
  | false =>
    obtain rfl : false = q := h
    go_enter Tryd.func16, Tryd.ntmps16
    go_wp2_with fail
    go_ret
    exact ⟨rfl, HB.out _⟩
  | true =>
    by_cases e0 : n = 0
    · subst e0
      cases ue with
      | true =>
        obtain rfl : false = q := h
        go_enter Tryd.func16, Tryd.ntmps16
        go_wp2_with fail
        go_ret
        exact ⟨rfl, HB.out _⟩
      | false =>
        obtain rfl : ok = q := h
        cases ok with
        | true =>
          have HC : Hid (chkE u = 0) := Lib.hid (chk9_ok hok)
          clear hok
          go_enter Tryd.func16, Tryd.ntmps16
          go_wp2_with (first
            | (go_at_call 28; (with_reducible refine (check5 u _ HU.out 0 HC.out).mono ?_); rintro e1 w1 ⟨rfl, hb1⟩; have HB1 : Hid (Below w.heap.size w w1) := Lib.hid (stp (HB.out _) hb1); clear hb1)
            | fail)
          go_ret
          exact ⟨rfl, HB1.out⟩
        | false =>
          obtain ⟨er, her⟩ : ∃ er, chkE u = er := ⟨_, rfl⟩
          have HC := Lib.hid her
          have g0 : (er == 0) = false := by rw [← her]; simpa using chk9_bad hok
          clear hok her
          go_enter Tryd.func16, Tryd.ntmps16
          go_wp2_with (first
            | (go_at_call 28; (with_reducible refine (check5 u _ HU.out er HC.out).mono ?_); rintro e1 w1 ⟨rfl, hb1⟩; have HB1 : Hid (Below w.heap.size w w1) := Lib.hid (stp (HB.out _) hb1); clear hb1)
            | fail)
          go_ret
          exact ⟨rfl, HB1.out⟩
    · rw [decide_eq_false e0] at h
      obtain rfl : false = q := h
      have g0 : ((n : Int) == 0) = false := by simp; omega
      go_enter Tryd.func16, Tryd.ntmps16
      go_wp2_with fail
      go_ret
      exact ⟨rfl, HB.out _⟩
set_option maxHeartbeats 4000000 in
set_option maxRecDepth 100000 in
theorem mayq_no (t : Tk) (x u : ByteArray) (A : Option Addr) (cp : Nat) (w : World) (ht : TkAt t x u A cp w) (h1 : t.kind ≠ 1) (h2 : t.kind ≠ 2) (h3 : t.kind ≠ 3) (h4 : t.kind ≠ 4) (q : Bool) (h : mayT t = q) :
    Calls Tryd.prog 16 #[TkV t x u A cp] w fun e w' => e = .returned (.bool q) ∧ Below w.heap.size w w' := by
  have HB : Hid (∀ o, Below w.heap.size w (w.alloc o)) := Lib.hid fun o => (Below.refl _ _).alloc (Nat.le_refl _) o
  have HTK : Hid (∀ W, Below w.heap.size w W → TkAt t x u A cp W) := Lib.hid fun W hW => ht.on hW
  have HN : Hid (x.size ≤ 1000000) := ht.ns
  have HU : Hid (u.size ≤ 1000000) := ht.us
  unfold mayT at h
  rw [if_neg (fun e => e.elim h1 h3), if_neg h2, if_neg h4] at h
  obtain rfl : false = q := h
  obtain ⟨z, hz⟩ : ∃ z : Int, (t.kind : Int) = z := ⟨_, rfl⟩
  have g1 : ¬ z = 1 := by omega
  have g2 : ¬ z = 2 := by omega
  have g3 : ¬ z = 3 := by omega
  have g4 : ¬ z = 4 := by omega
  unfold TkV
  rw [hz]
  clear ht hz h1 h2 h3 h4
  go_enter Tryd.func16, Tryd.ntmps16
  go_wp2_with fail
  go_ret
  exact ⟨rfl, HB.out _⟩
theorem may9q (t : Tk) (x u : ByteArray) (A : Option Addr) (cp : Nat) (w : World) (ht : TkAt t x u A cp w) (q : Bool) (h : mayT t = q) :
    Calls Tryd.prog 16 #[TkV t x u A cp] w fun e w' => e = .returned (.bool q) ∧ Below w.heap.size w w' := by
  by_cases h1 : t.kind = 1
  · exact mayq_1 t x u A cp w ht h1 q h
  by_cases h2 : t.kind = 2
  · exact mayq_2 t x u A cp w ht h2 q h
  by_cases h3 : t.kind = 3
  · exact mayq_3 t x u A cp w ht h3 q h
  by_cases h4 : t.kind = 4
  · exact mayq_4 t x u A cp w ht h4 q h
  exact mayq_no t x u A cp w ht h1 h2 h3 h4 q h
set_option maxRecDepth 100000 in
theorem check9q (t : Tk) (x u : ByteArray) (A : Option Addr) (cp : Nat) (w : World) (ht : TkAt t x u A cp w) (q : Int) (h : checkR t = q) :
    Calls Tryd.prog 10 #[TkV t x u A cp] w fun e w' => e = .returned (.int .i64 q) ∧ Below w.heap.size w w' := by
  unfold checkR at h
  obtain ⟨b, hb⟩ : ∃ b, mayT t = b := ⟨_, rfl⟩
  have HC : Hid (∀ W, Below w.heap.size w W → Calls Tryd.prog 16 #[TkV t x u A cp] W fun e w' => e = .returned (.bool b) ∧ Below W.heap.size W w') := Lib.hid fun W hW => may9q t x u A cp W (ht.on hW) b hb
  have HB : Hid (∀ o, Below w.heap.size w (w.alloc o)) := Lib.hid fun o => (Below.refl _ _).alloc (Nat.le_refl _) o
  rw [hb] at h
  unfold TkV at HC ⊢
  clear hb ht
  cases b <;> (
    subst h
    go_enter Tryd.func10, Tryd.ntmps10
    go_wp2_with (first
      | (go_at_call 16; (with_reducible refine (HC.out _ (HB.out _)).mono ?_); rintro e1 w1 ⟨rfl, hb1⟩)
      | fail)
    go_ret
    exact ⟨rfl, stp (HB.out _) hb1⟩)
end Hx
end Go.Proofs.YtbjgfaflikgobaaDoor
namespace Go.Proofs.YtbjgfaflikgobaaDoor
open Go.RowKit
namespace Hx
open Lx Tx Nmb Es
set_option linter.unusedVariables false
/-- Is what an attribute's value is written as short enough? A token's texts? -/
def fitP (p : Pr) : Bool := decide ((escL true p.value).length ≤ 16384)
def fitT (t : Tk) : Bool := if t.kind = 4 then decide ((escL false t.text).length ≤ 16384) else t.attrs.all fitP
/-- What may be known of a token that is to be written. -/
structure PutAt (t : Tk) (x u : ByteArray) (A : Option Addr) (cp : Nat) (B : Nat) (w : World) : Prop where
  name : x.data.toList = t.name
  text : u.data.toList = t.text
  attrs : RdC PrC w B A t.attrs
  le : t.attrs.length ≤ cp
  ns : x.size ≤ 1000000
  us : u.size ≤ 1000000
  sz : ∀ p ∈ t.attrs, p.name.length ≤ 1000000 ∧ p.value.length ≤ 1000000
  may : mayT t = true
end Hx
end Go.Proofs.YtbjgfaflikgobaaDoor
namespace Go.Proofs.YtbjgfaflikgobaaDoor
open Go.RowKit
namespace Hx
open Lx Tx Nmb Es
set_option linter.unusedVariables false
/-- Was the token ahead of place k a text? -/
def wasT (l : List Tk) : Nat → Bool
  | 0 => false
  | k + 1 => match l[k]? with | some t => decide (t.kind = 4) | none => false
end Hx
end Go.Proofs.YtbjgfaflikgobaaDoor
namespace Go.Proofs.YtbjgfaflikgobaaDoor
open Go.RowKit
namespace Hx
open Lx Tx Nmb Es
set_option linter.unusedVariables false
/-- Tokens that a call answers: where they lie. -/
def TkIn (ts : List Tk) (A : Option Addr) (c : Nat) (w : World) : Prop := RdC TkC w w.heap.size A ts ∧ ts.length ≤ c ∧ c ≤ maxLen ∧ (A = none → c = 0)
theorem TkIn.on {ts : List Tk} {A : Option Addr} {c : Nat} {w w' : World} (h : TkIn ts A c w) (hb : Below w.heap.size w w') : TkIn ts A c w' := ⟨h.1.on hb, h.2⟩
end Hx
end Go.Proofs.YtbjgfaflikgobaaDoor
