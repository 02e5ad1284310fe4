/-
  The document's own Version.
-/
import Derived.Test.YtllcmfohfnidpaaNumT
namespace Go.Proofs.Ytllcmfohfnidpaa
open Go.RowKit
namespace Hx
open Nmb
set_option linter.unusedVariables false
/-- What Version answers. -/
def verR (l : List UInt8) : Int × Int × Int := match ((List.range 100).flatMap fun n => (List.range 100).map fun m => (n, m)).find? (fun p => decide (ver p.1 p.2 = l)) with | some p => (p.1, p.2, 0) | none => (0, 0, 60)
theorem verR_spec {l : List UInt8} {a b c : Int} (h : verR l = (a, b, c)) : (∃ n m : Nat, n ≤ 99 ∧ m ≤ 99 ∧ ver n m = l ∧ a = n ∧ b = m ∧ c = 0) ∨ ((∀ n m, n ≤ 99 → m ≤ 99 → ver n m ≠ l) ∧ a = 0 ∧ b = 0 ∧ c = 60) := by
  unfold verR at h
  cases hf : ((List.range 100).flatMap fun n => (List.range 100).map fun m => (n, m)).find? (fun p => decide (ver p.1 p.2 = l)) with
  | some p =>
    rw [hf] at h
    obtain ⟨rfl, rfl, rfl⟩ : _ = a ∧ _ = b ∧ _ = c := by simpa only [Prod.mk.injEq] using h
    have h1 := List.find?_some hf
    have h2 := List.mem_of_find?_eq_some hf
    obtain ⟨n, hn, h3⟩ := List.mem_flatMap.1 h2
    obtain ⟨m, hm, rfl⟩ := List.mem_map.1 h3
    have q1 := List.mem_range.1 hn
    have q2 := List.mem_range.1 hm
    exact .inl ⟨n, m, by omega, by omega, of_decide_eq_true h1, rfl, rfl, rfl⟩
  | none =>
    rw [hf] at h
    obtain ⟨rfl, rfl, rfl⟩ : _ = a ∧ _ = b ∧ _ = c := by simpa only [Prod.mk.injEq] using h
    refine .inr ⟨fun n m h0 h1 => ?_, rfl, rfl, rfl⟩
    have := List.find?_eq_none.1 hf (n, m) (List.mem_flatMap.2 ⟨n, List.mem_range.2 (by omega), List.mem_map.2 ⟨m, List.mem_range.2 (by omega), rfl⟩⟩)
    simpa using this
theorem ver_length {n m : Nat} (hn : n ≤ 99) (hm : m ≤ 99) : (ver n m).length ≤ 5 := by
  have h1 := dg_short 1 n (by omega)
  have h2 := dg_short 1 m (by omega)
  unfold ver
  rw [List.length_append, List.length_cons]
  omega
/-- The text of a version, put together. -/
theorem ver_text (n m : Nat) (hn : n ≤ 99) (hm : m ≤ 99) : ∃ u v x t : ByteArray, u = ⟨(dg n).toArray⟩ ∧ v = ⟨(dg m).toArray⟩ ∧ t = ⟨(ver n m).toArray⟩ ∧ (∀ (P : Program) W, (Op.stringOp .add u ⟨#[46]⟩).run P W = .ok (.string x) W) ∧ (∀ (P : Program) W, (Op.stringOp .add x v).run P W = .ok (.string t) W) := by
  have h1 : (dg n).length ≤ 2 := dg_short 1 n (by omega)
  have h2 : (dg m).length ≤ 2 := dg_short 1 m (by omega)
  refine ⟨⟨(dg n).toArray⟩, ⟨(dg m).toArray⟩, ⟨(dg n ++ [46]).toArray⟩, ⟨(ver n m).toArray⟩, rfl, rfl, rfl, fun P W => ?_, fun P W => ?_⟩
  · exact run_string_add_lists W (dg n) [46] (by omega) (by simp)
  · rw [run_string_add_lists W (dg n ++ [46]) (dg m) (by rw [List.length_append]; simp; omega) (by omega)]
    unfold ver
    simp
set_option maxHeartbeats 4000000 in
set_option maxRecDepth 100000 in
theorem rversion6 (s : ByteArray) (w : World) (a b c : Int) (h : verR s.data.toList = (a, b, c)) :
    Calls Try.prog 9 #[.string s] w fun e w' => e = .returned (.tuple #[.int .i64 a, .int .i64 b, .int .i64 c]) ∧ Below w.heap.size w w' := by
  have hsp := verR_spec h
  clear h
  by_cases hl : 5 < s.size
  · have d0 : decide ((5 : Int) < (s.size : Int)) = true := by simp; omega
    obtain ⟨rfl, rfl, rfl⟩ : 0 = a ∧ 0 = b ∧ 60 = c := by
      rcases hsp with ⟨n, m, h1, h2, h3, _⟩ | ⟨_, p1, p2, p3⟩
      · have := ver_length h1 h2
        rw [h3, ba_len6] at this
        omega
      · exact ⟨p1.symm, p2.symm, p3.symm⟩
    clear hsp hl
    go_enter Try.func9, Try.ntmps9
    go_wp2_with fail
    refine bodyPost_ret (v := .tuple #[.int .i64 0, .int .i64 0, .int .i64 60]) ?_ rfl ⟨rfl, Below.refl _ _⟩
    simp [results, Try.results9, go_sem]
  · have d0 : decide ((5 : Int) < (s.size : Int)) = false := by simp; omega
    have HH := Lib.hid hsp
    clear hsp hl
    go_enter Try.func9, Try.ntmps9
    go_wp2_with fail
    go_loopw [5] (fun i wr => ∃ n : Nat, n ≤ 100 ∧ i = .int .i64 n ∧ (∀ n' m', n' < n → m' ≤ 99 → ver n' m' ≠ s.data.toList) ∧ Below w.heap.size w wr) (fun i _ => 100 - (intOf i).toNat)
    case atStart => exact ⟨0, by omega, rfl, fun _ _ h => absurd h (Nat.not_lt_zero _), Below.refl _ _⟩
    case round =>
      obtain ⟨n, hn, rfl, hno, hbw⟩ := hrel
      have HNO := Lib.hid hno
      have HBW := Lib.hid hbw
      by_cases hn9 : n ≤ 99
      · have d1 : decide ((n : Int) ≤ 99) = true := by simp; omega
        clear hno hbw
        obtain ⟨wo, rfl⟩ : ∃ wo : World, wo = wr := ⟨_, rfl⟩
        go_wp2_with fail
        go_loopw [6] (fun j wr => ∃ m : Nat, m ≤ 100 ∧ j = .int .i64 m ∧ (∀ m', m' < m → ver n m' ≠ s.data.toList) ∧ Below w.heap.size w wr) (fun j _ => 100 - (intOf j).toNat)
        case atStart => exact ⟨0, by omega, rfl, fun _ h => absurd h (Nat.not_lt_zero _), HBW.out⟩
        case round =>
          obtain ⟨m, hm, rfl, hno2, hbw2⟩ := hrel
          have HBW2 := Lib.hid hbw2
          by_cases hm9 : m ≤ 99
          · have d2 : decide ((m : Int) ≤ 99) = true := by simp; omega
            obtain ⟨u, v, x, t, hu, hv, ht, hc1, hc2⟩ := ver_text n m hn9 hm9
            have hc1' := hc1 Try.prog
            have hc2' := hc2 Try.prog
            have HU := Lib.hid hu
            have HV := Lib.hid hv
            have HN : Hid (n ≤ 9223372036854775807) := Lib.hid (by omega)
            have HM : Hid (m ≤ 9223372036854775807) := Lib.hid (by omega)
            obtain ⟨q, hq⟩ : ∃ q, (t.toList == s.toList) = q := ⟨_, rfl⟩
            have hqq : q = decide (ver n m = s.data.toList) := by rw [← hq, seq6, ht]
            cases q
            · have hne := of_decide_eq_false hqq.symm
              have HNO2 : Hid (∀ m', m' < m + 1 → ver n m' ≠ s.data.toList) := Lib.hid fun m' h1 => by
                by_cases hy : m' = m
                · subst hy; exact hne
                · exact hno2 m' (by omega)
              clear hno2 hbw2 hu hv ht hc1 hc2 hqq hne
              go_wp2_with (first
                | (go_at_call 11; (with_reducible refine (rdigits6 n wr HN.out u HU.out).mono ?_); rintro e w1 ⟨rfl, hb1⟩)
                | (go_at_call 11; (with_reducible refine (rdigits6 m w1 HM.out v HV.out).mono ?_); rintro e w2 ⟨rfl, hb2⟩; have hB2 := stp hb1 hb2)
                | fail)
              go_roundw
              case rel => exact ⟨m + 1, by omega, by go_num, HNO2.out, stp HBW2.out hB2⟩
              case measure => simp [intOf]; omega
            · have he := of_decide_eq_true hqq.symm
              obtain ⟨rfl, rfl, rfl⟩ : (n : Int) = a ∧ (m : Int) = b ∧ 0 = c := by
                rcases HH.out with ⟨n', m', p1, p2, p3, p4, p5, p6⟩ | ⟨p1, _⟩
                · obtain ⟨rfl, rfl⟩ := ver_inj (he.trans p3.symm)
                  exact ⟨p4.symm, p5.symm, p6.symm⟩
                · exact absurd he (p1 n m hn9 hm9)
              clear hno2 hbw2 hu hv ht hc1 hc2 hqq he HH
              go_wp2_with (first
                | (go_at_call 11; (with_reducible refine (rdigits6 n wr HN.out u HU.out).mono ?_); rintro e w1 ⟨rfl, hb1⟩)
                | (go_at_call 11; (with_reducible refine (rdigits6 m w1 HM.out v HV.out).mono ?_); rintro e w2 ⟨rfl, hb2⟩; have hB2 := stp hb1 hb2)
                | fail)
              refine bodyPost_ret (v := .tuple #[.int .i64 n, .int .i64 m, .int .i64 0]) ?_ rfl ⟨rfl, stp HBW2.out hB2⟩
              simp [results, Try.results9, go_sem]
          · obtain rfl : m = 100 := by omega
            have HNO3 : Hid (∀ n' m', n' < n + 1 → m' ≤ 99 → ver n' m' ≠ s.data.toList) := Lib.hid fun n' m' h1 h2 => by
              by_cases hy : n' = n
              · subst hy; exact hno2 m' (by omega)
              · exact HNO.out n' m' (by omega) h2
            clear hno2 hbw2
            go_wp2_with fail
            go_roundw
            case rel => exact ⟨n + 1, by omega, by go_num, HNO3.out, HBW2.out⟩
            case measure => simp [intOf]; omega
      · obtain rfl : n = 100 := by omega
        obtain ⟨rfl, rfl, rfl⟩ : 0 = a ∧ 0 = b ∧ 60 = c := by
          rcases HH.out with ⟨n', m', p1, p2, p3, _⟩ | ⟨_, p1, p2, p3⟩
          · exact absurd p3 (hno n' m' (by omega) p2)
          · exact ⟨p1.symm, p2.symm, p3.symm⟩
        clear hno hbw HH
        go_wp2_with fail
        refine bodyPost_ret (v := .tuple #[.int .i64 0, .int .i64 0, .int .i64 60]) ?_ rfl ⟨rfl, HBW.out⟩
        simp [results, Try.results9, go_sem]
end Hx
end Go.Proofs.Ytllcmfohfnidpaa
