/-
  Package lex as it landed: twice, mayHave.
-/
import Derived.Test.YtichboamakgabaaLeaB
import Derived.Test.YtichboamakgabaaLexK
import Derived.Test.YtichboamakgabaaLexU
import Derived.Test.YtichboamakgabaaTextQ
import Derived.Maps.OwnSet
import Derived.Maps.OwnOps
namespace Go.Proofs.Ytichboamakgabaa
open Go.RowKit Go.Maps Go.WideMaps
namespace Hx
open Lx Tx Nmb Es
set_option linter.unusedVariables false
theorem law9 : Keyed Try.prog 9 := string_keyed Try.underlying9
theorem zero9 (w : World) : (zeroValue 3).run Try.prog w = .ok (.int .i64 0) w := by kernel_rfl
/-- What the map of names holds after some attributes. -/
structure Seen (D : DataW Unit) (l : List Pr) : Prop where
  has : ∀ z : List UInt8, Maps.has D (.string z) = hasL l z
  size : Maps.size D = dis [] l
theorem Seen.nil : Seen (.map []) [] := ⟨fun _ => rfl, rfl⟩
theorem Seen.next {D : DataW Unit} {l : List Pr} (h : Seen D l) (ht : Maps.Tidy D) (p : Pr) (d : DataW Unit) : Seen (D.put (.string p.name) d) (l ++ [p]) := by
  refine ⟨fun z => ?_, ?_⟩
  · have e : hasL (l ++ [p]) z = (hasL l z || decide (p.name = z)) := by simp [hasL]
    rw [e]
    by_cases hz : p.name = z
    · subst hz
      rw [Maps.has_put_same ht.isMap (by simp [WideAt.IsKeyLit])]
      simp
    · rw [Maps.has_put_other (fun e => hz (by injection e with e; exact e.symm)), h.has]
      simp [hz]
  · rw [Maps.size_put ht, h.has, h.size, dis_snoc, List.nil_append]
    cases hasL l p.name <;> simp
theorem twice_dis (l : List Pr) : decide (dis [] l < l.length) = !fresh [] l := by
  obtain ⟨h1, h2⟩ := dis_le l []
  cases hf : fresh [] l with
  | true => have := h2.2 hf; exact decide_eq_false (by omega)
  | false =>
    refine decide_eq_true ?_
    rcases Nat.lt_or_eq_of_le h1 with h | h
    · omega
    · have := h2.1 h; rw [hf] at this; cases this
theorem box_cell9 {w w1 : World} {cs : Array Value} {T : TypeId} (hb : Below (w.alloc (.cells cs T)).heap.size (w.alloc (.cells cs T)) w1) (i : Nat) (v : Value) (h : cs[i]? = some v) : w1.cell? ⟨w.heap.size, i, none⟩ = some v ∧ w.heap.size < w1.heap.size := by
  have hs := hb.size
  simp at hs
  refine ⟨?_, by omega⟩
  rw [hb.cell (p := ⟨w.heap.size, i, none⟩) (by simp)]
  simp [h]
def zPr9 : Array Value := #[.string ⟨#[]⟩, .string ⟨#[]⟩]
set_option maxHeartbeats 8000000 in
set_option maxRecDepth 100000 in
theorem twice9 (A : Option Addr) (n cp : Nat) (l : List Pr) (w : World) (hr : RdC PrC w w.heap.size A l) (hn : l.length = n) (hcp : n ≤ cp) (hm : n ≤ 1000000) (hsz : ∀ p ∈ l, p.name.length ≤ 1000000) (q : Bool) (h : (!fresh [] l) = q) :
    Calls Try.prog 28 #[.slice A n cp] w fun e w' => e = .returned (.bool q) ∧ Below w.heap.size w w' := by
  have hmm := @run_makeMap Try.prog
  have HR := Lib.hid hr
  have HN := Lib.hid hn
  have HM := Lib.hid hm
  have HSZ := Lib.hid hsz
  have HQ : Hid (∀ D, Seen D l → decide (Maps.size D < n) = q) := Lib.hid fun D hD => by
    rw [hD.size, ← hn, twice_dis, h]
  clear hr hn h hsz
  go_enter Try.func28, Try.ntmps28
  go_wp2_with fail
  go_loopw [9] (fun i wr => ∃ (k : Nat) (D : DataW Unit), k ≤ n ∧ i = .int .i64 k ∧ wr.ownsMap Try.prog 9 (plainElem Try.prog 3) w.heap.size k D ∧ Seen D (l.take k) ∧ Below w.heap.size w wr) (fun i _ => n - (intOf i).toNat)
  case atStart => exact ⟨0, .map [], Nat.zero_le _, rfl, World.ownsMap_made _ _ _ _, Seen.nil, (Below.refl _ _).alloc (Nat.le_refl _) _⟩
  case round =>
    obtain ⟨k, D, hk, rfl, hown, hseen, hbw⟩ := hrel
    have hm := HM.out
    have HBW := Lib.hid hbw
    by_cases hlt : k < n
    · have hk1 : k < l.length := by rw [HN.out]; exact hlt
      obtain ⟨b0, off, rfl, hbB, hc⟩ := (HR.out.below hbw) (by omega)
      obtain ⟨cs, ⟨x, y, rfl, hx, hy⟩, hcell⟩ := hc k hk1
      have c0 : wr.cell? ⟨b0, off + k * 2, none⟩ = some (.string x) := hcell 0 (by simp)
      have c1 : wr.cell? ⟨b0, off + k * 2 + 1, none⟩ = some (.string y) := hcell 1 (by simp)
      have hz := HSZ.out _ (List.getElem_mem hk1)
      rw [← hx, ba_l] at hz
      have hkey : keyOf Try.prog 9 (.string x) = some (.string x.data.toList) := keyOf_string_mk Try.underlying9 (by unfold maxLen; omega)
      have bk : (0 : Int) ≤ (k : Int) ∧ (k : Int) < (n : Int) := by omega
      have bc : (k : Int) ≤ (cp : Int) := by omega
      have HNEW : Hid (∀ d, Seen (D.put (.string x.data.toList) d) (l.take (k + 1))) := Lib.hid fun d => by
        have := hseen.next (hown.tidy law9) (l[k]'hk1) d
        rw [← List.take_succ_eq_append_getElem hk1, ← hx] at this
        exact this
      have HOWN := Lib.hid hown
      have HKEY := Lib.hid hkey
      clear hbw hc hcell hx hy hz hk1 hseen hown hkey
      go_wp2_with (first
        | (refine wpList_store_row rfl _ _ _ rfl wr.heap.size #[.string x, .string y] rfl rfl 37 zPr9 (heap_alloc_new _ _) sizePr rfl (onePr x y) ?_; rw [World.setRow_alloc_new])
        | (at_lookup; refine wpList_lookup_own_int _ rfl _ _ 67 rfl 9 3 .i64 law9 Try.underlying67 Try.underlying3 (zero9 _) w.heap.size k D rfl (HOWN.out.alloc _) _ _ rfl HKEY.out ?_; intro c hat hwc; clear hat hwc)
        | (at_mapUpdate; refine wpList_mapUpdate_own _ rfl _ _ _ 67 rfl 9 3 law9 Try.underlying67 _ w.heap.size k _ rfl (HOWN.out.alloc _) (by unfold maxLen; omega) _ _ _ rfl rfl HKEY.out _ [] (plainElem_int Try.underlying3 (wrap64_wf _)) ?_; intro w2 hown2 hgr2; have HO2 := Lib.hid hown2; have HG2 := Lib.hid hgr2; clear hown2 hgr2)
        | fail)
      go_roundw
      case rel => exact ⟨k + 1, _, by omega, by go_num, HO2.out, HNEW.out _, (HBW.out.alloc HBW.out.size _).grown HG2.out (Nat.le_trans HBW.out.size (by simp)) (fun j hj => by cases hj; exact Nat.le_refl _)⟩
      case measure => simp [intOf]; omega
    · obtain rfl : k = n := by omega
      have hq := HQ.out D (by rwa [List.take_of_length_le (by rw [HN.out]; exact Nat.le_refl _)] at hseen)
      have HOWN := Lib.hid hown
      clear hseen hbw hown
      have tok1 : True := trivial
      go_wp2_with (first
        | (have _t := tok1; at_len; refine wpList_len_own _ rfl _ 67 rfl 9 3 Try.underlying67 _ w.heap.size k D rfl HOWN.out ?_; clear _t tok1)
        | fail)
      go_ret
      exact ⟨rfl, HBW.out⟩
theorem all_snoc9 {l : List Pr} {k : Nat} (h : k < l.length) (f : Pr → Bool) : (l.take (k + 1)).all f = ((l.take k).all f && f (l[k]'h)) := by
  rw [List.take_succ_eq_append_getElem h, List.all_append]
  simp
def goodP (p : Pr) : Bool := fullL p.name && okT p.value
theorem attrsOk_eq (l : List Pr) : attrsOk l = (fresh [] l && l.all goodP && decide (l.length ≤ 16)) := by unfold attrsOk; rw [attrsF_fresh]; rfl
set_option maxHeartbeats 8000000 in
set_option maxRecDepth 100000 in
theorem mayA9q (A : Option Addr) (n cp : Nat) (l : List Pr) (w : World) (hr : RdC PrC w w.heap.size A l) (hn : l.length = n) (hcp : n ≤ cp) (hm : n ≤ 1000000) (hsz : ∀ p ∈ l, p.name.length ≤ 1000000 ∧ p.value.length ≤ 1000000) (q : Bool) (h : attrsOk l = q) :
    Calls Try.prog 18 #[.slice A n cp] w fun e w' => e = .returned (.bool q) ∧ Below w.heap.size w w' := by
  rw [attrsOk_eq, hn] at h
  by_cases h16 : n ≤ 16
  · rw [decide_eq_true h16, Bool.and_true] at h
    have g16 : decide ((16 : Int) < (n : Int)) = false := decide_eq_false (by omega)
    cases hf : fresh [] l with
    | false =>
      obtain rfl : false = q := by rw [← h, hf]; rfl
      have HC : Hid (Calls Try.prog 28 #[.slice A n cp] w fun e w' => e = .returned (.bool true) ∧ Below w.heap.size w w') := Lib.hid (twice9 A n cp l w hr hn hcp hm (fun p hp => (hsz p hp).1) true (by rw [hf]; rfl))
      clear hr hn hcp hsz h hf
      go_enter Try.func18, Try.ntmps18
      go_wp2_with (first
        | (go_at_call 28; (with_reducible refine (HC.out).mono ?_); rintro e1 w1 ⟨rfl, hb1⟩)
        | fail)
      go_ret
      exact ⟨rfl, hb1⟩
    | true =>
      have HC : Hid (Calls Try.prog 28 #[.slice A n cp] w fun e w' => e = .returned (.bool false) ∧ Below w.heap.size w w') := Lib.hid (twice9 A n cp l w hr hn hcp hm (fun p hp => (hsz p hp).1) false (by rw [hf]; rfl))
      rw [hf, Bool.true_and] at h
      have HR := Lib.hid hr
      have HN := Lib.hid hn
      have HH := Lib.hid h
      have HSZ := Lib.hid hsz
      clear hr hn hsz h hf
      go_enter Try.func18, Try.ntmps18
      go_wp2_with (first
        | (go_at_call 28; (with_reducible refine (HC.out).mono ?_); rintro e1 w1 ⟨rfl, hb1⟩; have HB1 := Lib.hid hb1; clear hb1)
        | fail)
      go_loopw [14] (fun i wr => ∃ k : Nat, k ≤ n ∧ i = .int .i64 k ∧ (l.take k).all goodP = true ∧ Below w.heap.size w wr) (fun i _ => n - (intOf i).toNat)
      case atStart => exact ⟨0, Nat.zero_le _, rfl, rfl, HB1.out⟩
      case round =>
        obtain ⟨k, hk, rfl, hall, hbw⟩ := hrel
        have HBW := Lib.hid hbw
        by_cases hlt : k < n
        · have hk1 : k < l.length := by rw [HN.out]; exact hlt
          obtain ⟨b0, off, rfl, hbB, hc⟩ := (HR.out.below hbw) (by omega)
          obtain ⟨cs, ⟨x, y, rfl, hx, hy⟩, hcell⟩ := hc k hk1
          have c0 : wr.cell? ⟨b0, off + k * 2, none⟩ = some (.string x) := hcell 0 (by simp)
          have c1 : wr.cell? ⟨b0, off + k * 2 + 1, none⟩ = some (.string y) := hcell 1 (by simp)
          have hz := HSZ.out _ (List.getElem_mem hk1)
          rw [← hx, ← hy, ba_l, ba_l] at hz
          have HXS := Lib.hid hz.1
          have HYS := Lib.hid hz.2
          have bk : (0 : Int) ≤ (k : Int) ∧ (k : Int) < (n : Int) := by omega
          have bc : (k : Int) ≤ (cp : Int) := by omega
          have hg : goodP (l[k]'hk1) = (fullL x.data.toList && okT y.data.toList) := by unfold goodP; rw [← hx, ← hy]
          have hbad : goodP (l[k]'hk1) = false → l.all goodP = false := fun e => List.all_eq_false.2 ⟨_, List.getElem_mem hk1, by rw [e]; decide⟩
          have hnx : goodP (l[k]'hk1) = true → (l.take (k + 1)).all goodP = true := fun e => by rw [all_snoc9 hk1, hall, e]; rfl
          have HBO : Hid (∀ o, Below w.heap.size w (wr.alloc o)) := Lib.hid fun o => hbw.alloc hbw.size o
          cases hf : fullL x.data.toList with
          | false =>
            have HF := Lib.hid hf
            obtain rfl : false = q := by rw [← HH.out]; exact (hbad (by rw [hg, hf]; rfl)).symm
            clear hbw hc hcell hx hy hz hk1 hall hg hbad hnx hf
            go_wp2_with (first
              | (refine wpList_store_row rfl _ _ _ rfl wr.heap.size #[.string x, .string y] rfl rfl 37 zPr9 (heap_alloc_new _ _) sizePr rfl (onePr x y) ?_; rw [World.setRow_alloc_new])
              | (go_at_call 17; (with_reducible refine (full9q x _ HXS.out false HF.out).mono ?_); rintro e2 w2 ⟨rfl, hb2⟩)
              | fail)
            go_ret
            exact ⟨rfl, stp (HBO.out _) hb2⟩
          | true =>
            have HF := Lib.hid hf
            cases hv : okT y.data.toList with
            | false =>
              obtain ⟨er, her⟩ : ∃ er, chkE y = er := ⟨_, rfl⟩
              have HCK := Lib.hid her
              have g0 : (er != 0) = true := by rw [← her]; simpa using chk9_bad hv
              obtain rfl : false = q := by rw [← HH.out]; exact (hbad (by rw [hg, hf, hv]; rfl)).symm
              clear hbw hc hcell hx hy hz hk1 hall hg hbad hnx hf hv her
              go_wp2_with (first
                | (refine wpList_store_row rfl _ _ _ rfl wr.heap.size #[.string x, .string y] rfl rfl 37 zPr9 (heap_alloc_new _ _) sizePr rfl (onePr x y) ?_; rw [World.setRow_alloc_new])
                | (go_at_call 17; (with_reducible refine (full9q x _ HXS.out true HF.out).mono ?_); rintro e2 w2 ⟨rfl, hb2⟩; have d1 := (box_cell9 hb2 1 (.string y) rfl).1; have HB2 : Hid (Below w.heap.size w w2) := Lib.hid (stp (HBO.out _) hb2); clear hb2)
                | (go_at_call 19; (with_reducible refine (check5 y _ HYS.out er HCK.out).mono ?_); rintro e3 w3 ⟨rfl, hb3⟩)
                | fail)
              go_ret
              exact ⟨rfl, stp HB2.out hb3⟩
            | true =>
              have HCK : Hid (chkE y = 0) := Lib.hid (chk9_ok hv)
              have HV := Lib.hid (hnx (by rw [hg, hf, hv]; rfl))
              clear hbw hc hcell hx hy hz hk1 hall hg hbad hnx hf hv
              go_wp2_with (first
                | (refine wpList_store_row rfl _ _ _ rfl wr.heap.size #[.string x, .string y] rfl rfl 37 zPr9 (heap_alloc_new _ _) sizePr rfl (onePr x y) ?_; rw [World.setRow_alloc_new])
                | (go_at_call 17; (with_reducible refine (full9q x _ HXS.out true HF.out).mono ?_); rintro e2 w2 ⟨rfl, hb2⟩; have d1 := (box_cell9 hb2 1 (.string y) rfl).1; have HB2 : Hid (Below w.heap.size w w2) := Lib.hid (stp (HBO.out _) hb2); clear hb2)
                | (go_at_call 19; (with_reducible refine (check5 y _ HYS.out 0 HCK.out).mono ?_); rintro e3 w3 ⟨rfl, hb3⟩; have HB3 : Hid (Below w.heap.size w w3) := Lib.hid (stp HB2.out hb3); clear hb3)
                | fail)
              go_roundw
              case rel => exact ⟨k + 1, by omega, by go_num, HV.out, HB3.out⟩
              case measure => simp [intOf]; omega
        · obtain rfl : k = n := by omega
          obtain rfl : true = q := by
            rw [← HH.out]
            rwa [List.take_of_length_le (by rw [HN.out]; exact Nat.le_refl _), eq_comm] at hall
          clear hall hbw
          go_wp2_with fail
          go_ret
          exact ⟨rfl, HBW.out⟩
  · rw [decide_eq_false h16, Bool.and_false] at h
    obtain rfl : false = q := h
    have g16 : decide ((16 : Int) < (n : Int)) = true := decide_eq_true (by omega)
    clear hr hn hcp hsz
    go_enter Try.func18, Try.ntmps18
    go_wp2_with fail
    go_ret
    exact ⟨rfl, Below.refl _ _⟩
end Hx
end Go.Proofs.Ytichboamakgabaa
