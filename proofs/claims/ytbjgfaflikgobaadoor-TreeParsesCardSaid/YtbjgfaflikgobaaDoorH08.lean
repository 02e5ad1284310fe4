/-
  Texts of one seat, put together: LexK, LexJ.
-/
import Derived.Test.YtbjgfaflikgobaaDoorH05
import Derived.Deep.RegionHeld3
import Derived.Deep.QuietTactic
namespace Go.Proofs.YtbjgfaflikgobaaDoor
open Go.RowKit
namespace Hx
open Lx Tx Nmb Es
set_option linter.unusedVariables false
theorem attrsF_at {l : List Pr} {k : Nat} (h : k < l.length) : attrsF (l.take k) (l.drop k) = (fullL (l[k]'h).name && !hasL (l.take k) (l[k]'h).name && okT (l[k]'h).value && attrsF (l.take (k + 1)) (l.drop (k + 1))) := by
  rw [List.drop_eq_getElem_cons h, List.take_succ_eq_append_getElem h]
  rfl
theorem RdC.take {α : Type} {C : Cod α} {w : World} {B : Nat} {A : Option Addr} {l : List α} (h : RdC C w B A l) (k : Nat) : RdC C w B A (l.take k) := by
  intro hp
  have hl := List.length_take (i := k) (l := l)
  obtain ⟨b, off, e, hb, hc⟩ := h (by omega)
  refine ⟨b, off, e, hb, fun j hj => ?_⟩
  obtain ⟨cs, h1, h2⟩ := hc j (by omega)
  exact ⟨cs, by rw [List.getElem_take]; exact h1, h2⟩
theorem chk9_ok {y : ByteArray} (h : okT y.data.toList = true) : chkE y = 0 := by
  unfold okT at h
  rw [Bool.and_eq_true, decide_eq_true_eq, ba_l] at h
  unfold chkE
  rw [if_neg (by omega), if_pos (show (pts y.data.toList).isSome = true from h.2)]
theorem chk9_bad {y : ByteArray} (h : okT y.data.toList = false) : chkE y ≠ 0 := by
  unfold chkE
  by_cases h1 : 16384 < y.size
  · rw [if_pos h1]; decide
  · rw [if_neg h1]
    by_cases h2 : (pts y.data.toList).isSome = true
    · exfalso
      unfold okT at h
      rw [ba_l, decide_eq_true (by omega), show isP y.data.toList = true from h2] at h
      cases h
    · rw [if_neg h2]; decide
set_option maxHeartbeats 8000000 in
set_option maxRecDepth 100000 in
theorem rmayA9 (A : Option Addr) (n cp : Nat) (l : List Pr) (w : World) (hr : RdC PrC w w.heap.size A l) (hn : l.length = n) (hcp : n ≤ cp) (hm : n ≤ 1000000) (hsz : ∀ p ∈ l, p.name.length ≤ 1000000 ∧ p.value.length ≤ 1000000) (q : Bool) (h : attrsOk l = q) :
    Calls Tryd.prog 21 #[.slice A n cp] w fun e w' => e = .returned (.bool q) ∧ Below w.heap.size w w' := by
  have HR := Lib.hid hr
  have HN := Lib.hid hn
  have HM := Lib.hid hm
  have HH := Lib.hid h
  have HSZ := Lib.hid hsz
  clear hr hn h hsz
  go_enter Tryd.func21, Tryd.ntmps21
  go_wp2_with fail
  go_loopw [3] (fun i wr => ∃ k : Nat, k ≤ n ∧ i = .int .i64 k ∧ attrsF [] l = attrsF (l.take k) (l.drop k) ∧ Below w.heap.size w wr) (fun i _ => n - (intOf i).toNat)
  case atStart => exact ⟨0, Nat.zero_le _, rfl, rfl, Below.refl _ _⟩
  case round =>
    obtain ⟨k, hk, rfl, hno, hbw⟩ := hrel
    have hm := HM.out
    have HBW := Lib.hid hbw
    by_cases hlt : k < n
    · have hk1 : k < l.length := by rw [HN.out]; exact hlt
      have hrk := (HR.out.on hbw).take k
      obtain ⟨b0, off, rfl, hbB, hc⟩ := (HR.out.on hbw) (by omega)
      obtain ⟨cs, ⟨x, y, rfl, hx, hy⟩, hcell⟩ := hc k hk1
      have c0 : wr.cell? ⟨b0, off + k * 2, none⟩ = some (.string x) := hcell 0 (by simp)
      have c1 : wr.cell? ⟨b0, off + k * 2 + 1, none⟩ = some (.string y) := hcell 1 (by simp)
      have hz := HSZ.out _ (List.getElem_mem hk1)
      rw [← hx, ← hy, ba_l, ba_l] at hz
      have HXS := Lib.hid hz.1
      have HYS := Lib.hid hz.2
      have HRK := Lib.hid hrk
      have hat := attrsF_at hk1
      rw [← hno, ← hx, ← hy] at hat
      have HAT := Lib.hid hat
      have HKL : Hid ((l.take k).length = k) := Lib.hid (by rw [List.length_take]; omega)
      have HKM : Hid (k ≤ 1000000) := Lib.hid (by omega)
      have bk : (0 : Int) ≤ (k : Int) ∧ (k : Int) < (n : Int) := by omega
      have bc : (k : Int) ≤ (cp : Int) := by omega
      clear hbw hc hcell hno hx hy hz hrk hat hk1
      cases hf : fullL x.data.toList with
      | false =>
        have HF := Lib.hid hf
        obtain rfl : false = q := by rw [← HH.out]; unfold attrsOk; rw [HAT.out, hf]; rfl
        clear hf
        go_wp2_with fail
        go_quiet ((go_at_call 20; exact Calls.quiet_of (rfull9q x _ HXS.out false HF.out)))
        go_wp2_with fail
        go_ret
        exact ⟨rfl, stp HBW.out ⟨rfl, rfl, rfl, Nat.le_refl _, fun _ _ => rfl⟩⟩
      | true =>
        have HF := Lib.hid hf
        cases hh : hasL (l.take k) x.data.toList with
        | true =>
          have HHS := Lib.hid hh
          obtain rfl : false = q := by rw [← HH.out]; unfold attrsOk; rw [HAT.out, hf, hh]; rfl
          clear hf hh
          have HRQ : Hid (∀ m, RdC PrC (wr.drewN m) (wr.drewN m).heap.size (some ⟨b0, off, none⟩) (l.take k)) := Lib.hid fun m => HRK.out.on ⟨rfl, rfl, rfl, Nat.le_refl _, fun _ _ => rfl⟩
          go_wp2_with fail
          go_quiet (first
            | (go_at_call 20; exact Calls.quiet_of (rfull9q x _ HXS.out true HF.out))
            | (go_at_call 34; exact Calls.quiet_of_same ((rhas9 _ k _ (l.take k) x _ (HRQ.out _) HKL.out HKM.out true HHS.out).mono fun e w' h => ⟨h.1, h.2.symm⟩)))
          go_wp2_with fail
          go_ret
          exact ⟨rfl, stp HBW.out ⟨rfl, rfl, rfl, Nat.le_refl _, fun _ _ => rfl⟩⟩
        | false =>
          have HHS := Lib.hid hh
          cases hv : okT y.data.toList with
          | false =>
            obtain ⟨er, her⟩ : ∃ er, chkE y = er := ⟨_, rfl⟩
            have HC := Lib.hid her
            have g0 : (er != 0) = true := by rw [← her]; simpa using chk9_bad hv
            obtain rfl : false = q := by rw [← HH.out]; unfold attrsOk; rw [HAT.out, hf, hh, hv]; rfl
            clear hf hh hv her
            go_wp2_with fail
            go_region_held3 (fun w' => w'.cell? ⟨b0, off + k * 2, none⟩ = some (.string x) ∧ w'.cell? ⟨b0, off + k * 2 + 1, none⟩ = some (.string y)) (first | go_keep | exact ⟨(hb1.cell hbB).trans c0, (hb1.cell hbB).trans c1⟩ | exact ⟨(hb3.cell (Nat.lt_of_lt_of_le hbB hb1.size)).trans ((hb1.cell hbB).trans c0), (hb3.cell (Nat.lt_of_lt_of_le hbB hb1.size)).trans ((hb1.cell hbB).trans c1)⟩) ((first
              | (go_at_call 20; (with_reducible refine (rfull9 x _ HXS.out true HF.out).mono ?_); rintro e w1 ⟨rfl, hb1⟩)
              | (go_at_call 34; (with_reducible refine (rhas9 _ k _ (l.take k) x w1 ((HRK.out.on (Below.refl wr.heap.size wr).drew).on hb1) HKL.out HKM.out false HHS.out).mono ?_); rintro e w2 ⟨rfl, rfl⟩)
              | (go_at_call 22; (with_reducible refine (rcheck_any y _ HYS.out er HC.out).mono ?_); rintro e w3 ⟨rfl, hb3⟩)))
            go_wp2_with fail
            go_ret
            exact ⟨rfl, stp (stp HBW.out.drew hb1) hb3⟩
          | true =>
            have HC : Hid (chkE y = 0) := Lib.hid (chk9_ok hv)
            have HT : Hid (attrsF [] l = attrsF (l.take (k + 1)) (l.drop (k + 1))) := Lib.hid (by rw [HAT.out, hf, hh, hv]; rfl)
            clear hf hh hv
            go_wp2_with fail
            go_region_held3 (fun w' => w'.cell? ⟨b0, off + k * 2, none⟩ = some (.string x) ∧ w'.cell? ⟨b0, off + k * 2 + 1, none⟩ = some (.string y)) (first | go_keep | exact ⟨(hb1.cell hbB).trans c0, (hb1.cell hbB).trans c1⟩ | exact ⟨(hb3.cell (Nat.lt_of_lt_of_le hbB hb1.size)).trans ((hb1.cell hbB).trans c0), (hb3.cell (Nat.lt_of_lt_of_le hbB hb1.size)).trans ((hb1.cell hbB).trans c1)⟩) ((first
              | (go_at_call 20; (with_reducible refine (rfull9 x _ HXS.out true HF.out).mono ?_); rintro e w1 ⟨rfl, hb1⟩)
              | (go_at_call 34; (with_reducible refine (rhas9 _ k _ (l.take k) x w1 ((HRK.out.on (Below.refl wr.heap.size wr).drew).on hb1) HKL.out HKM.out false HHS.out).mono ?_); rintro e w2 ⟨rfl, rfl⟩)
              | (go_at_call 22; (with_reducible refine (rcheck_any y _ HYS.out 0 HC.out).mono ?_); rintro e w3 ⟨rfl, hb3⟩)))
            go_wp2_with fail
            go_roundw
            case rel => exact ⟨k + 1, by omega, by go_num, HT.out, stp (stp HBW.out.drew hb1) hb3⟩
            case measure => simp [intOf]; omega
    · obtain rfl : k = n := by omega
      have hd : decide ((k : Int) ≤ 16) = q := by
        rw [← HH.out]
        unfold attrsOk
        rw [hno, List.drop_of_length_le (by rw [HN.out]; exact Nat.le_refl _), HN.out]
        unfold attrsF
        rw [Bool.true_and]
        by_cases h6 : k ≤ 16
        · rw [decide_eq_true h6]; exact decide_eq_true (by omega)
        · rw [decide_eq_false h6]; exact decide_eq_false (by omega)
      clear hno
      go_wp2_with fail
      go_ret
      exact ⟨rfl, HBW.out⟩
end Hx
end Go.Proofs.YtbjgfaflikgobaaDoor
namespace Go.Proofs.YtbjgfaflikgobaaDoor
open Go.RowKit
namespace Hx
open Lx Tx Nmb Es
set_option linter.unusedVariables false
/-- A token's cells, as a value. -/
def TkV (t : Tk) (x u : ByteArray) (A : Option Addr) (cp : Nat) : Value := .agg #[.int .u8 (t.kind : Int), .string x, .slice A t.attrs.length cp, .string u]
/-- What a token's cells are to be. -/
structure TkAt (t : Tk) (x u : ByteArray) (A : Option Addr) (cp : Nat) (w : World) : Prop where
  name : x.data.toList = t.name
  text : u.data.toList = t.text
  attrs : RdC PrC w w.heap.size A t.attrs
  le : t.attrs.length ≤ cp
  ns : x.size ≤ 1000000
  us : u.size ≤ 1000000
  al : t.attrs.length ≤ 1000000
  sz : ∀ p ∈ t.attrs, p.name.length ≤ 1000000 ∧ p.value.length ≤ 1000000
theorem TkAt.on {t : Tk} {x u : ByteArray} {A : Option Addr} {cp : Nat} {w w' : World} (h : TkAt t x u A cp w) (hb : Below w.heap.size w w') : TkAt t x u A cp w' := ⟨h.name, h.text, h.attrs.on hb, h.le, h.ns, h.us, h.al, h.sz⟩
theorem box_cell {w w1 : World} {cs : Array Value} {T : TypeId} (hb : Below (w.alloc (.cells cs T)).heap.size (w.alloc (.cells cs T)) w1) (i : Nat) (v : Value) (h : cs[i]? = some v) : w1.cell? ⟨w.heap.size, i, none⟩ = some v ∧ w.heap.size < w1.heap.size := by
  have hs := hb.size
  simp at hs
  refine ⟨?_, by omega⟩
  rw [hb.cell (p := ⟨w.heap.size, i, none⟩) (by simp)]
  simp [h]
theorem emp_l (s : ByteArray) : s.toList.isEmpty = s.data.toList.isEmpty := by rw [ByteArray.toList_eq]
set_option maxHeartbeats 4000000 in
set_option maxRecDepth 100000 in
theorem may_1 (t : Tk) (x u : ByteArray) (A : Option Addr) (cp : Nat) (w : World) (ht : TkAt t x u A cp w) (hk : t.kind = 1) (q : Bool) (h : mayT t = q) :
    Calls Tryd.prog 12 #[TkV t x u A cp] w fun e w' => e = .returned (.bool q) ∧ Below w.heap.size w w' := by
  have HB : Hid (∀ o, Below w.heap.size w (w.alloc o)) := Lib.hid fun o => (Below.refl _ _).alloc (Nat.le_refl _) o
  have HTK : Hid (∀ W, Below w.heap.size w W → TkAt t x u A cp W) := Lib.hid fun W hW => ht.on hW
  have HN : Hid (x.size ≤ 1000000) := ht.ns
  have HU : Hid (u.size ≤ 1000000) := ht.us
  unfold mayT at h
  rw [if_pos (by rw [hk]; decide)] at h
  obtain ⟨n, hn⟩ : ∃ n, t.attrs.length = n := ⟨_, rfl⟩
  have HNL := Lib.hid hn
  obtain ⟨ff, hf⟩ : ∃ ff, fullL x.data.toList = ff := ⟨_, rfl⟩
  obtain ⟨aa, ha⟩ : ∃ aa, attrsOk t.attrs = aa := ⟨_, rfl⟩
  obtain ⟨ee, hue⟩ : ∃ ee, u.toList.isEmpty = ee := ⟨_, rfl⟩
  rw [← ht.name, hf, ha, ← ht.text, ← emp_l, hue] at h
  have HF := Lib.hid hf
  have HA := Lib.hid ha
  unfold TkV
  rw [hk, hn]
  clear ht hf ha hn hk
  cases ff with
  | false =>
    obtain rfl : false = q := h
    go_enter Tryd.func12, Tryd.ntmps12
    go_wp2_with (first
      | (go_at_call 20; (with_reducible refine (rfull9 x _ HN.out false HF.out).mono ?_); rintro e1 w1 ⟨rfl, hb1⟩; have HB1 : Hid (Below w.heap.size w w1) := Lib.hid (stp (HB.out _) hb1); have c2 := (box_cell hb1 2 (.slice A n cp) rfl).1; have c3 := (box_cell hb1 3 (.string u) rfl).1; have hlt1 := (box_cell hb1 3 (.string u) rfl).2; clear hb1)
      | fail)
    go_ret
    exact ⟨rfl, HB1.out⟩
  | true =>
    cases aa with
    | false =>
      obtain rfl : false = q := h
      go_enter Tryd.func12, Tryd.ntmps12
      go_wp2_with (first
        | (go_at_call 20; (with_reducible refine (rfull9 x _ HN.out true HF.out).mono ?_); rintro e1 w1 ⟨rfl, hb1⟩; have HB1 : Hid (Below w.heap.size w w1) := Lib.hid (stp (HB.out _) hb1); have c2 := (box_cell hb1 2 (.slice A n cp) rfl).1; have c3 := (box_cell hb1 3 (.string u) rfl).1; have hlt1 := (box_cell hb1 3 (.string u) rfl).2; clear hb1)
        | (go_at_call 21; (with_reducible refine (rmayA9 A n cp t.attrs _ (HTK.out _ HB1.out).attrs HNL.out (HNL.out ▸ (HTK.out _ HB1.out).le) (HNL.out ▸ (HTK.out _ HB1.out).al) (HTK.out _ HB1.out).sz false HA.out).mono ?_); rintro e2 w2 ⟨rfl, hb2⟩; have HB2 : Hid (Below w.heap.size w w2) := Lib.hid (stp HB1.out hb2); have d3 := (hb2.cell (p := ⟨w.heap.size, 3, none⟩) hlt1).trans c3; clear hb2)
        | fail)
      go_ret
      exact ⟨rfl, HB2.out⟩
    | true =>
      obtain rfl : ee = q := h
      go_enter Tryd.func12, Tryd.ntmps12
      go_wp2_with (first
        | (go_at_call 20; (with_reducible refine (rfull9 x _ HN.out true HF.out).mono ?_); rintro e1 w1 ⟨rfl, hb1⟩; have HB1 : Hid (Below w.heap.size w w1) := Lib.hid (stp (HB.out _) hb1); have c2 := (box_cell hb1 2 (.slice A n cp) rfl).1; have c3 := (box_cell hb1 3 (.string u) rfl).1; have hlt1 := (box_cell hb1 3 (.string u) rfl).2; clear hb1)
        | (go_at_call 21; (with_reducible refine (rmayA9 A n cp t.attrs _ (HTK.out _ HB1.out).attrs HNL.out (HNL.out ▸ (HTK.out _ HB1.out).le) (HNL.out ▸ (HTK.out _ HB1.out).al) (HTK.out _ HB1.out).sz true HA.out).mono ?_); rintro e2 w2 ⟨rfl, hb2⟩; have HB2 : Hid (Below w.heap.size w w2) := Lib.hid (stp HB1.out hb2); have d3 := (hb2.cell (p := ⟨w.heap.size, 3, none⟩) hlt1).trans c3; clear hb2)
        | fail)
      go_ret
      exact ⟨rfl, HB2.out⟩
set_option maxHeartbeats 4000000 in
set_option maxRecDepth 100000 in
theorem may_3 (t : Tk) (x u : ByteArray) (A : Option Addr) (cp : Nat) (w : World) (ht : TkAt t x u A cp w) (hk : t.kind = 3) (q : Bool) (h : mayT t = q) :
    Calls Tryd.prog 12 #[TkV t x u A cp] w fun e w' => e = .returned (.bool q) ∧ Below w.heap.size w w' := by
  have HB : Hid (∀ o, Below w.heap.size w (w.alloc o)) := Lib.hid fun o => (Below.refl _ _).alloc (Nat.le_refl _) o
  have HTK : Hid (∀ W, Below w.heap.size w W → TkAt t x u A cp W) := Lib.hid fun W hW => ht.on hW
  have HN : Hid (x.size ≤ 1000000) := ht.ns
  have HU : Hid (u.size ≤ 1000000) := ht.us
  unfold mayT at h
  rw [if_pos (by rw [hk]; decide)] at h
  obtain ⟨n, hn⟩ : ∃ n, t.attrs.length = n := ⟨_, rfl⟩
  have HNL := Lib.hid hn
  obtain ⟨ff, hf⟩ : ∃ ff, fullL x.data.toList = ff := ⟨_, rfl⟩
  obtain ⟨aa, ha⟩ : ∃ aa, attrsOk t.attrs = aa := ⟨_, rfl⟩
  obtain ⟨ee, hue⟩ : ∃ ee, u.toList.isEmpty = ee := ⟨_, rfl⟩
  rw [← ht.name, hf, ha, ← ht.text, ← emp_l, hue] at h
  have HF := Lib.hid hf
  have HA := Lib.hid ha
  unfold TkV
  rw [hk, hn]
  clear ht hf ha hn hk
  cases ff with
  | false =>
    obtain rfl : false = q := h
    go_enter Tryd.func12, Tryd.ntmps12
    go_wp2_with (first
      | (go_at_call 20; (with_reducible refine (rfull9 x _ HN.out false HF.out).mono ?_); rintro e1 w1 ⟨rfl, hb1⟩; have HB1 : Hid (Below w.heap.size w w1) := Lib.hid (stp (HB.out _) hb1); have c2 := (box_cell hb1 2 (.slice A n cp) rfl).1; have c3 := (box_cell hb1 3 (.string u) rfl).1; have hlt1 := (box_cell hb1 3 (.string u) rfl).2; clear hb1)
      | fail)
    go_ret
    exact ⟨rfl, HB1.out⟩
  | true =>
    cases aa with
    | false =>
      obtain rfl : false = q := h
      go_enter Tryd.func12, Tryd.ntmps12
      go_wp2_with (first
        | (go_at_call 20; (with_reducible refine (rfull9 x _ HN.out true HF.out).mono ?_); rintro e1 w1 ⟨rfl, hb1⟩; have HB1 : Hid (Below w.heap.size w w1) := Lib.hid (stp (HB.out _) hb1); have c2 := (box_cell hb1 2 (.slice A n cp) rfl).1; have c3 := (box_cell hb1 3 (.string u) rfl).1; have hlt1 := (box_cell hb1 3 (.string u) rfl).2; clear hb1)
        | (go_at_call 21; (with_reducible refine (rmayA9 A n cp t.attrs _ (HTK.out _ HB1.out).attrs HNL.out (HNL.out ▸ (HTK.out _ HB1.out).le) (HNL.out ▸ (HTK.out _ HB1.out).al) (HTK.out _ HB1.out).sz false HA.out).mono ?_); rintro e2 w2 ⟨rfl, hb2⟩; have HB2 : Hid (Below w.heap.size w w2) := Lib.hid (stp HB1.out hb2); have d3 := (hb2.cell (p := ⟨w.heap.size, 3, none⟩) hlt1).trans c3; clear hb2)
        | fail)
      go_ret
      exact ⟨rfl, HB2.out⟩
    | true =>
      obtain rfl : ee = q := h
      go_enter Tryd.func12, Tryd.ntmps12
      go_wp2_with (first
        | (go_at_call 20; (with_reducible refine (rfull9 x _ HN.out true HF.out).mono ?_); rintro e1 w1 ⟨rfl, hb1⟩; have HB1 : Hid (Below w.heap.size w w1) := Lib.hid (stp (HB.out _) hb1); have c2 := (box_cell hb1 2 (.slice A n cp) rfl).1; have c3 := (box_cell hb1 3 (.string u) rfl).1; have hlt1 := (box_cell hb1 3 (.string u) rfl).2; clear hb1)
        | (go_at_call 21; (with_reducible refine (rmayA9 A n cp t.attrs _ (HTK.out _ HB1.out).attrs HNL.out (HNL.out ▸ (HTK.out _ HB1.out).le) (HNL.out ▸ (HTK.out _ HB1.out).al) (HTK.out _ HB1.out).sz true HA.out).mono ?_); rintro e2 w2 ⟨rfl, hb2⟩; have HB2 : Hid (Below w.heap.size w w2) := Lib.hid (stp HB1.out hb2); have d3 := (hb2.cell (p := ⟨w.heap.size, 3, none⟩) hlt1).trans c3; clear hb2)
        | fail)
      go_ret
      exact ⟨rfl, HB2.out⟩
set_option maxHeartbeats 4000000 in
set_option maxRecDepth 100000 in
theorem may_2 (t : Tk) (x u : ByteArray) (A : Option Addr) (cp : Nat) (w : World) (ht : TkAt t x u A cp w) (hk : t.kind = 2) (q : Bool) (h : mayT t = q) :
    Calls Tryd.prog 12 #[TkV t x u A cp] w fun e w' => e = .returned (.bool q) ∧ Below w.heap.size w w' := by
  have HB : Hid (∀ o, Below w.heap.size w (w.alloc o)) := Lib.hid fun o => (Below.refl _ _).alloc (Nat.le_refl _) o
  have HTK : Hid (∀ W, Below w.heap.size w W → TkAt t x u A cp W) := Lib.hid fun W hW => ht.on hW
  have HN : Hid (x.size ≤ 1000000) := ht.ns
  have HU : Hid (u.size ≤ 1000000) := ht.us
  unfold mayT at h
  rw [if_neg (by rw [hk]; decide), if_pos hk] at h
  obtain ⟨n, hn⟩ : ∃ n, t.attrs.length = n := ⟨_, rfl⟩
  obtain ⟨ff, hf⟩ : ∃ ff, fullL x.data.toList = ff := ⟨_, rfl⟩
  obtain ⟨ee, hue⟩ : ∃ ee, u.toList.isEmpty = ee := ⟨_, rfl⟩
  have h0 : t.attrs.isEmpty = decide (n = 0) := by rw [← hn, Bool.eq_iff_iff, List.isEmpty_iff, decide_eq_true_eq, List.length_eq_zero_iff]
  rw [← ht.name, hf, h0, ← ht.text, ← emp_l, hue] at h
  have HF := Lib.hid hf
  unfold TkV
  rw [hk, hn]
  clear ht hf hn hk h0
  cases ff with
  | false =>
    obtain rfl : false = q := h
    go_enter Tryd.func12, Tryd.ntmps12
    go_wp2_with (first
      | (go_at_call 20; (with_reducible refine (rfull9 x _ HN.out false HF.out).mono ?_); rintro e1 w1 ⟨rfl, hb1⟩; have HB1 : Hid (Below w.heap.size w w1) := Lib.hid (stp (HB.out _) hb1); have c2 := (box_cell hb1 2 (.slice A n cp) rfl).1; have c3 := (box_cell hb1 3 (.string u) rfl).1; have hlt1 := (box_cell hb1 3 (.string u) rfl).2; clear hb1)
      | fail)
    go_ret
    exact ⟨rfl, HB1.out⟩
  | true =>
    by_cases e0 : n = 0
    · subst e0
      obtain rfl : ee = q := h
      go_enter Tryd.func12, Tryd.ntmps12
      go_wp2_with (first
        | (go_at_call 20; (with_reducible refine (rfull9 x _ HN.out true HF.out).mono ?_); rintro e1 w1 ⟨rfl, hb1⟩; have HB1 : Hid (Below w.heap.size w w1) := Lib.hid (stp (HB.out _) hb1); have c2 := (box_cell hb1 2 (.slice A 0 cp) rfl).1; have c3 := (box_cell hb1 3 (.string u) rfl).1; have hlt1 := (box_cell hb1 3 (.string u) rfl).2; clear hb1)
        | fail)
      go_ret
      exact ⟨rfl, HB1.out⟩
    · rw [decide_eq_false e0] at h
      obtain rfl : false = q := h
      have g0 : ((n : Int) == 0) = false := by simp; omega
      go_enter Tryd.func12, Tryd.ntmps12
      go_wp2_with (first
        | (go_at_call 20; (with_reducible refine (rfull9 x _ HN.out true HF.out).mono ?_); rintro e1 w1 ⟨rfl, hb1⟩; have HB1 : Hid (Below w.heap.size w w1) := Lib.hid (stp (HB.out _) hb1); have c2 := (box_cell hb1 2 (.slice A n cp) rfl).1; have c3 := (box_cell hb1 3 (.string u) rfl).1; have hlt1 := (box_cell hb1 3 (.string u) rfl).2; clear hb1)
        | fail)
      go_ret
      exact ⟨rfl, HB1.out⟩
set_option maxHeartbeats 4000000 in
set_option maxRecDepth 100000 in
theorem may_4 (t : Tk) (x u : ByteArray) (A : Option Addr) (cp : Nat) (w : World) (ht : TkAt t x u A cp w) (hk : t.kind = 4) (q : Bool) (h : mayT t = q) :
    Calls Tryd.prog 12 #[TkV t x u A cp] w fun e w' => e = .returned (.bool q) ∧ Below w.heap.size w w' := by
  have HB : Hid (∀ o, Below w.heap.size w (w.alloc o)) := Lib.hid fun o => (Below.refl _ _).alloc (Nat.le_refl _) o
  have HTK : Hid (∀ W, Below w.heap.size w W → TkAt t x u A cp W) := Lib.hid fun W hW => ht.on hW
  have HN : Hid (x.size ≤ 1000000) := ht.ns
  have HU : Hid (u.size ≤ 1000000) := ht.us
  unfold mayT at h
  rw [if_neg (by rw [hk]; decide), if_neg (by rw [hk]; decide), if_pos hk] at h
  obtain ⟨n, hn⟩ : ∃ n, t.attrs.length = n := ⟨_, rfl⟩
  obtain ⟨xe, hxe⟩ : ∃ xe, x.toList.isEmpty = xe := ⟨_, rfl⟩
  obtain ⟨ue, hue⟩ : ∃ ue, u.toList.isEmpty = ue := ⟨_, rfl⟩
  have h0 : t.attrs.isEmpty = decide (n = 0) := by rw [← hn, Bool.eq_iff_iff, List.isEmpty_iff, decide_eq_true_eq, List.length_eq_zero_iff]
  obtain ⟨ok, hok⟩ : ∃ ok, okT u.data.toList = ok := ⟨_, rfl⟩
  have hok2 := hok
  rw [ht.text] at hok2
  rw [hok2] at h
  rw [← ht.name, ← emp_l, hxe, h0, ← ht.text, ← emp_l, hue] at h
  unfold TkV
  rw [hk, hn]
  clear ht hn hk h0 hok2
  cases xe with
  | false =>
    obtain rfl : false = q := h
    go_enter Tryd.func12, Tryd.ntmps12
    go_wp2_with fail
    go_ret
    exact ⟨rfl, HB.out _⟩
  | true =>
    by_cases e0 : n = 0
    · subst e0
      cases ue with
      | true =>
        obtain rfl : false = q := h
        go_enter Tryd.func12, Tryd.ntmps12
        go_wp2_with fail
        go_ret
        exact ⟨rfl, HB.out _⟩
      | false =>
        obtain rfl : ok = q := h
        cases ok with
        | true =>
          have HC : Hid (chkE u = 0) := Lib.hid (chk9_ok hok)
          clear hok
          go_enter Tryd.func12, Tryd.ntmps12
          go_wp2_with (first
            | (go_at_call 22; (with_reducible refine (rcheck_any u _ HU.out 0 HC.out).mono ?_); rintro e1 w1 ⟨rfl, hb1⟩; have HB1 : Hid (Below w.heap.size w w1) := Lib.hid (stp (HB.out _) hb1); clear hb1)
            | fail)
          go_ret
          exact ⟨rfl, HB1.out⟩
        | false =>
          obtain ⟨er, her⟩ : ∃ er, chkE u = er := ⟨_, rfl⟩
          have HC := Lib.hid her
          have g0 : (er == 0) = false := by rw [← her]; simpa using chk9_bad hok
          clear hok her
          go_enter Tryd.func12, Tryd.ntmps12
          go_wp2_with (first
            | (go_at_call 22; (with_reducible refine (rcheck_any u _ HU.out er HC.out).mono ?_); rintro e1 w1 ⟨rfl, hb1⟩; have HB1 : Hid (Below w.heap.size w w1) := Lib.hid (stp (HB.out _) hb1); clear hb1)
            | fail)
          go_ret
          exact ⟨rfl, HB1.out⟩
    · rw [decide_eq_false e0] at h
      obtain rfl : false = q := h
      have g0 : ((n : Int) == 0) = false := by simp; omega
      go_enter Tryd.func12, Tryd.ntmps12
      go_wp2_with fail
      go_ret
      exact ⟨rfl, HB.out _⟩
set_option maxHeartbeats 4000000 in
set_option maxRecDepth 100000 in
theorem may_no (t : Tk) (x u : ByteArray) (A : Option Addr) (cp : Nat) (w : World) (ht : TkAt t x u A cp w) (h1 : t.kind ≠ 1) (h2 : t.kind ≠ 2) (h3 : t.kind ≠ 3) (h4 : t.kind ≠ 4) (q : Bool) (h : mayT t = q) :
    Calls Tryd.prog 12 #[TkV t x u A cp] w fun e w' => e = .returned (.bool q) ∧ Below w.heap.size w w' := by
  have HB : Hid (∀ o, Below w.heap.size w (w.alloc o)) := Lib.hid fun o => (Below.refl _ _).alloc (Nat.le_refl _) o
  have HTK : Hid (∀ W, Below w.heap.size w W → TkAt t x u A cp W) := Lib.hid fun W hW => ht.on hW
  have HN : Hid (x.size ≤ 1000000) := ht.ns
  have HU : Hid (u.size ≤ 1000000) := ht.us
  unfold mayT at h
  rw [if_neg (fun e => e.elim h1 h3), if_neg h2, if_neg h4] at h
  obtain rfl : false = q := h
  obtain ⟨z, hz⟩ : ∃ z : Int, (t.kind : Int) = z := ⟨_, rfl⟩
  have g1 : ¬ z = 1 := by omega
  have g2 : ¬ z = 2 := by omega
  have g3 : ¬ z = 3 := by omega
  have g4 : ¬ z = 4 := by omega
  unfold TkV
  rw [hz]
  clear ht hz h1 h2 h3 h4
  go_enter Tryd.func12, Tryd.ntmps12
  go_wp2_with fail
  go_ret
  exact ⟨rfl, HB.out _⟩
theorem rmay9 (t : Tk) (x u : ByteArray) (A : Option Addr) (cp : Nat) (w : World) (ht : TkAt t x u A cp w) (q : Bool) (h : mayT t = q) :
    Calls Tryd.prog 12 #[TkV t x u A cp] w fun e w' => e = .returned (.bool q) ∧ Below w.heap.size w w' := by
  by_cases h1 : t.kind = 1
  · exact may_1 t x u A cp w ht h1 q h
  by_cases h2 : t.kind = 2
  · exact may_2 t x u A cp w ht h2 q h
  by_cases h3 : t.kind = 3
  · exact may_3 t x u A cp w ht h3 q h
  by_cases h4 : t.kind = 4
  · exact may_4 t x u A cp w ht h4 q h
  exact may_no t x u A cp w ht h1 h2 h3 h4 q h
def checkR (t : Tk) : Int := if mayT t then 0 else 8
end Hx
end Go.Proofs.YtbjgfaflikgobaaDoor
