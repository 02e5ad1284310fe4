/-
  The document's own lex: mayAttrs.
-/
import Derived.Test.YtichboamakgabaaLexT
import Derived.Deep.RegionHeld3
import Derived.Deep.QuietTactic
namespace Go.Proofs.Ytichboamakgabaa
open Go.RowKit
namespace Hx
open Lx Tx Nmb Es
set_option linter.unusedVariables false
theorem attrsF_at {l : List Pr} {k : Nat} (h : k < l.length) : attrsF (l.take k) (l.drop k) = (fullL (l[k]'h).name && !hasL (l.take k) (l[k]'h).name && okT (l[k]'h).value && attrsF (l.take (k + 1)) (l.drop (k + 1))) := by
  rw [List.drop_eq_getElem_cons h, List.take_succ_eq_append_getElem h]
  rfl
theorem RdC.take {α : Type} {C : Cod α} {w : World} {B : Nat} {A : Option Addr} {l : List α} (h : RdC C w B A l) (k : Nat) : RdC C w B A (l.take k) := by
  intro hp
  have hl := List.length_take (i := k) (l := l)
  obtain ⟨b, off, e, hb, hc⟩ := h (by omega)
  refine ⟨b, off, e, hb, fun j hj => ?_⟩
  obtain ⟨cs, h1, h2⟩ := hc j (by omega)
  exact ⟨cs, by rw [List.getElem_take]; exact h1, h2⟩
theorem chk9_ok {y : ByteArray} (h : okT y.data.toList = true) : chkE y = 0 := by
  unfold okT at h
  rw [Bool.and_eq_true, decide_eq_true_eq, ba_l] at h
  unfold chkE
  rw [if_neg (by omega), if_pos (show (pts y.data.toList).isSome = true from h.2)]
theorem chk9_bad {y : ByteArray} (h : okT y.data.toList = false) : chkE y ≠ 0 := by
  unfold chkE
  by_cases h1 : 16384 < y.size
  · rw [if_pos h1]; decide
  · rw [if_neg h1]
    by_cases h2 : (pts y.data.toList).isSome = true
    · exfalso
      unfold okT at h
      rw [ba_l, decide_eq_true (by omega), show isP y.data.toList = true from h2] at h
      cases h
    · rw [if_neg h2]; decide
set_option maxHeartbeats 8000000 in
set_option maxRecDepth 100000 in
theorem rmayA9 (A : Option Addr) (n cp : Nat) (l : List Pr) (w : World) (hr : RdC PrC w w.heap.size A l) (hn : l.length = n) (hcp : n ≤ cp) (hm : n ≤ 1000000) (hsz : ∀ p ∈ l, p.name.length ≤ 1000000 ∧ p.value.length ≤ 1000000) (q : Bool) (h : attrsOk l = q) :
    Calls Try.prog 21 #[.slice A n cp] w fun e w' => e = .returned (.bool q) ∧ Below w.heap.size w w' := by
  have HR := Lib.hid hr
  have HN := Lib.hid hn
  have HM := Lib.hid hm
  have HH := Lib.hid h
  have HSZ := Lib.hid hsz
  clear hr hn h hsz
  go_enter Try.func21, Try.ntmps21
  go_wp2_with fail
  go_loopw [3] (fun i wr => ∃ k : Nat, k ≤ n ∧ i = .int .i64 k ∧ attrsF [] l = attrsF (l.take k) (l.drop k) ∧ Below w.heap.size w wr) (fun i _ => n - (intOf i).toNat)
  case atStart => exact ⟨0, Nat.zero_le _, rfl, rfl, Below.refl _ _⟩
  case round =>
    obtain ⟨k, hk, rfl, hno, hbw⟩ := hrel
    have hm := HM.out
    have HBW := Lib.hid hbw
    by_cases hlt : k < n
    · have hk1 : k < l.length := by rw [HN.out]; exact hlt
      have hrk := (HR.out.on hbw).take k
      obtain ⟨b0, off, rfl, hbB, hc⟩ := (HR.out.on hbw) (by omega)
      obtain ⟨cs, ⟨x, y, rfl, hx, hy⟩, hcell⟩ := hc k hk1
      have c0 : wr.cell? ⟨b0, off + k * 2, none⟩ = some (.string x) := hcell 0 (by simp)
      have c1 : wr.cell? ⟨b0, off + k * 2 + 1, none⟩ = some (.string y) := hcell 1 (by simp)
      have hz := HSZ.out _ (List.getElem_mem hk1)
      rw [← hx, ← hy, ba_l, ba_l] at hz
      have HXS := Lib.hid hz.1
      have HYS := Lib.hid hz.2
      have HRK := Lib.hid hrk
      have hat := attrsF_at hk1
      rw [← hno, ← hx, ← hy] at hat
      have HAT := Lib.hid hat
      have HKL : Hid ((l.take k).length = k) := Lib.hid (by rw [List.length_take]; omega)
      have HKM : Hid (k ≤ 1000000) := Lib.hid (by omega)
      have bk : (0 : Int) ≤ (k : Int) ∧ (k : Int) < (n : Int) := by omega
      have bc : (k : Int) ≤ (cp : Int) := by omega
      clear hbw hc hcell hno hx hy hz hrk hat hk1
      cases hf : fullL x.data.toList with
      | false =>
        have HF := Lib.hid hf
        obtain rfl : false = q := by rw [← HH.out]; unfold attrsOk; rw [HAT.out, hf]; rfl
        clear hf
        go_wp2_with fail
        go_quiet ((go_at_call 20; exact Calls.quiet_of (rfull9q x _ HXS.out false HF.out)))
        go_wp2_with fail
        go_ret
        exact ⟨rfl, stp HBW.out ⟨rfl, rfl, rfl, Nat.le_refl _, fun _ _ => rfl⟩⟩
      | true =>
        have HF := Lib.hid hf
        cases hh : hasL (l.take k) x.data.toList with
        | true =>
          have HHS := Lib.hid hh
          obtain rfl : false = q := by rw [← HH.out]; unfold attrsOk; rw [HAT.out, hf, hh]; rfl
          clear hf hh
          have HRQ : Hid (∀ m, RdC PrC (wr.drewN m) (wr.drewN m).heap.size (some ⟨b0, off, none⟩) (l.take k)) := Lib.hid fun m => HRK.out.on ⟨rfl, rfl, rfl, Nat.le_refl _, fun _ _ => rfl⟩
          go_wp2_with fail
          go_quiet (first
            | (go_at_call 20; exact Calls.quiet_of (rfull9q x _ HXS.out true HF.out))
            | (go_at_call 32; exact Calls.quiet_of_same ((rhas9 _ k _ (l.take k) x _ (HRQ.out _) HKL.out HKM.out true HHS.out).mono fun e w' h => ⟨h.1, h.2.symm⟩)))
          go_wp2_with fail
          go_ret
          exact ⟨rfl, stp HBW.out ⟨rfl, rfl, rfl, Nat.le_refl _, fun _ _ => rfl⟩⟩
        | false =>
          have HHS := Lib.hid hh
          cases hv : okT y.data.toList with
          | false =>
            obtain ⟨er, her⟩ : ∃ er, chkE y = er := ⟨_, rfl⟩
            have HC := Lib.hid her
            have g0 : (er != 0) = true := by rw [← her]; simpa using chk9_bad hv
            obtain rfl : false = q := by rw [← HH.out]; unfold attrsOk; rw [HAT.out, hf, hh, hv]; rfl
            clear hf hh hv her
            go_wp2_with fail
            go_region_held3 (fun w' => w'.cell? ⟨b0, off + k * 2, none⟩ = some (.string x) ∧ w'.cell? ⟨b0, off + k * 2 + 1, none⟩ = some (.string y)) (first | go_keep | exact ⟨(hb1.cell hbB).trans c0, (hb1.cell hbB).trans c1⟩ | exact ⟨(hb3.cell (Nat.lt_of_lt_of_le hbB hb1.size)).trans ((hb1.cell hbB).trans c0), (hb3.cell (Nat.lt_of_lt_of_le hbB hb1.size)).trans ((hb1.cell hbB).trans c1)⟩) ((first
              | (go_at_call 20; (with_reducible refine (rfull9 x _ HXS.out true HF.out).mono ?_); rintro e w1 ⟨rfl, hb1⟩)
              | (go_at_call 32; (with_reducible refine (rhas9 _ k _ (l.take k) x w1 ((HRK.out.on (Below.refl wr.heap.size wr).drew).on hb1) HKL.out HKM.out false HHS.out).mono ?_); rintro e w2 ⟨rfl, rfl⟩)
              | (go_at_call 22; (with_reducible refine (rcheck_any y _ HYS.out er HC.out).mono ?_); rintro e w3 ⟨rfl, hb3⟩)))
            go_wp2_with fail
            go_ret
            exact ⟨rfl, stp (stp HBW.out.drew hb1) hb3⟩
          | true =>
            have HC : Hid (chkE y = 0) := Lib.hid (chk9_ok hv)
            have HT : Hid (attrsF [] l = attrsF (l.take (k + 1)) (l.drop (k + 1))) := Lib.hid (by rw [HAT.out, hf, hh, hv]; rfl)
            clear hf hh hv
            go_wp2_with fail
            go_region_held3 (fun w' => w'.cell? ⟨b0, off + k * 2, none⟩ = some (.string x) ∧ w'.cell? ⟨b0, off + k * 2 + 1, none⟩ = some (.string y)) (first | go_keep | exact ⟨(hb1.cell hbB).trans c0, (hb1.cell hbB).trans c1⟩ | exact ⟨(hb3.cell (Nat.lt_of_lt_of_le hbB hb1.size)).trans ((hb1.cell hbB).trans c0), (hb3.cell (Nat.lt_of_lt_of_le hbB hb1.size)).trans ((hb1.cell hbB).trans c1)⟩) ((first
              | (go_at_call 20; (with_reducible refine (rfull9 x _ HXS.out true HF.out).mono ?_); rintro e w1 ⟨rfl, hb1⟩)
              | (go_at_call 32; (with_reducible refine (rhas9 _ k _ (l.take k) x w1 ((HRK.out.on (Below.refl wr.heap.size wr).drew).on hb1) HKL.out HKM.out false HHS.out).mono ?_); rintro e w2 ⟨rfl, rfl⟩)
              | (go_at_call 22; (with_reducible refine (rcheck_any y _ HYS.out 0 HC.out).mono ?_); rintro e w3 ⟨rfl, hb3⟩)))
            go_wp2_with fail
            go_roundw
            case rel => exact ⟨k + 1, by omega, by go_num, HT.out, stp (stp HBW.out.drew hb1) hb3⟩
            case measure => simp [intOf]; omega
    · obtain rfl : k = n := by omega
      have hd : decide ((k : Int) ≤ 16) = q := by
        rw [← HH.out]
        unfold attrsOk
        rw [hno, List.drop_of_length_le (by rw [HN.out]; exact Nat.le_refl _), HN.out]
        unfold attrsF
        rw [Bool.true_and]
        by_cases h6 : k ≤ 16
        · rw [decide_eq_true h6]; exact decide_eq_true (by omega)
        · rw [decide_eq_false h6]; exact decide_eq_false (by omega)
      clear hno
      go_wp2_with fail
      go_ret
      exact ⟨rfl, HBW.out⟩
end Hx
end Go.Proofs.Ytichboamakgabaa
