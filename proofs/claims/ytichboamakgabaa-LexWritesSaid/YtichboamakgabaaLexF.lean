/-
  The document's own lex: Join.
-/
import Derived.Test.YtichboamakgabaaLexG
import Derived.Deep.LoopGhost
namespace Go.Proofs.Ytichboamakgabaa
open Go.RowKit
namespace Hx
open Lx Tx Nmb Es
set_option linter.unusedVariables false
theorem apart_iff : ∀ (l : List Tk), apart l = true ↔ ∀ (i : Nat) (h : i + 1 < l.length), ¬ ((l[i]'(by omega)).kind = 4 ∧ (l[i + 1]'h).kind = 4)
  | [] => by simp [apart]
  | [a] => by simp [apart]
  | a :: b :: r => by
    rw [apart, Bool.and_eq_true, apart_iff (b :: r)]
    constructor
    · rintro ⟨h1, h2⟩ i hi
      cases i with
      | zero =>
        intro hh
        simp only [List.getElem_cons_zero, List.getElem_cons_succ] at hh
        simp [hh.1, hh.2] at h1
      | succ i => exact h2 i (by simpa using hi)
    · intro h
      refine ⟨?_, fun i hi => ?_⟩
      · have := h 0 (by simp)
        simp only [List.getElem_cons_zero, List.getElem_cons_succ] at this
        by_cases h1 : a.kind = 4
        · by_cases h2 : b.kind = 4
          · exact absurd ⟨h1, h2⟩ this
          · simp [h2]
        · simp [h1]
      · exact h (i + 1) (by simpa using hi)
theorem apart_bad {l : List Tk} {k : Nat} (h0 : 1 ≤ k) (h : k < l.length) (h1 : (l[k - 1]'(by omega)).kind = 4) (h2 : (l[k]'h).kind = 4) : apart l = false := by
  cases hb : apart l with
  | false => rfl
  | true =>
    have := (apart_iff l).1 hb (k - 1) (by omega)
    have e : k - 1 + 1 = k := by omega
    simp only [e] at this
    exact absurd ⟨h1, h2⟩ this
theorem apart_next {l : List Tk} {k : Nat} (h0 : 1 ≤ k) (h : k < l.length) (hp : apart (l.take k) = true) (hn : ¬ ((l[k - 1]'(by omega)).kind = 4 ∧ (l[k]'h).kind = 4)) : apart (l.take (k + 1)) = true := by
  rw [apart_iff] at hp ⊢
  intro i hi
  rw [List.length_take] at hi
  by_cases e : i + 1 = k
  · have e2 : i = k - 1 := by omega
    subst e2
    simp only [List.getElem_take, e]
    exact hn
  · have := hp i (by rw [List.length_take]; omega)
    simpa only [List.getElem_take] using this
/-- Bounds of a token. -/
def Small (t : Tk) : Prop := t.name.length ≤ 1000000 ∧ t.text.length ≤ 1000000 ∧ t.attrs.length ≤ 1000000 ∧ ∀ p ∈ t.attrs, p.name.length ≤ 1000000 ∧ p.value.length ≤ 1000000
theorem writeA_len (p : Pr) (h : p.name.length ≤ 1000000 ∧ p.value.length ≤ 1000000) : (writeA p).length ≤ 8000000 := by
  have := (escL_len true p.value).2
  unfold writeA
  simp only [List.length_cons, List.length_append, List.length_nil]
  omega
theorem flatA_len : ∀ (l : List Pr), (∀ p ∈ l, p.name.length ≤ 1000000 ∧ p.value.length ≤ 1000000) → (l.flatMap writeA).length ≤ l.length * 8000000
  | [], _ => by simp
  | p :: l, h => by
    have h1 := writeA_len p (h p (by simp))
    have h2 := flatA_len l (fun q hq => h q (by simp [hq]))
    rw [List.flatMap_cons, List.length_append, List.length_cons]
    omega
theorem writeT_len {t : Tk} (h : Small t) : (writeT t).length ≤ 8000009000000 := by
  obtain ⟨h1, h2, h3, h4⟩ := h
  have h5 := flatA_len t.attrs h4
  have h6 := (escL_len false t.text).2
  unfold writeT
  split
  · omega
  · split
    · simp only [List.length_cons, List.length_append, List.length_nil]
      omega
    · simp only [List.length_cons, List.length_append]
      split <;> simp only [List.length_cons, List.length_nil] <;> omega
/-- A token among some. -/
theorem tk_at {w : World} {A : Option Addr} {l : List Tk} {k : Nat} (hr : RdC TkC w w.heap.size A l) (hk : k < l.length) (hs : Small (l[k]'hk)) :
    ∃ (b off : Nat) (x u : ByteArray) (A1 : Option Addr) (p1 : Nat), A = some ⟨b, off, none⟩ ∧ b < w.heap.size ∧ w.cell? ⟨b, off + k * 4, none⟩ = some (.int .u8 ((l[k]'hk).kind : Int)) ∧ w.cell? ⟨b, off + k * 4 + 1, none⟩ = some (.string x) ∧
      w.cell? ⟨b, off + k * 4 + 2, none⟩ = some (.slice A1 (l[k]'hk).attrs.length p1) ∧ w.cell? ⟨b, off + k * 4 + 3, none⟩ = some (.string u) ∧ TkAt (l[k]'hk) x u A1 p1 w := by
  obtain ⟨b, off, e, hb, hc⟩ := hr (by omega)
  obtain ⟨cs, ⟨x, A1, p1, u, rfl, hkd, hx, hu, hle, hmx, hnl, hrd⟩, hcell⟩ := hc k hk
  obtain ⟨s1, s2, s3, s4⟩ := hs
  refine ⟨b, off, x, u, A1, p1, e, hb, hcell 0 (by simp), hcell 1 (by simp), hcell 2 (by simp), hcell 3 (by simp), ⟨hx, hu, hrd, hle, ?_, ?_, s3, s4⟩⟩
  · rw [← ba_l, hx]; exact s1
  · rw [← ba_l, hu]; exact s2
set_option maxHeartbeats 8000000 in
set_option maxRecDepth 100000 in
theorem rjoin9 (A : Option Addr) (n cp : Nat) (l : List Tk) (w : World) (hr : RdC TkC w w.heap.size A l) (hn : l.length = n) (hm : n ≤ 1000000) (hsz : ∀ t ∈ l, Small t) (s : ByteArray) (e : Int) (h : joinR l = (s.data.toList, e)) :
    Calls Try.prog 8 #[.slice A n cp] w fun e' w' => e' = .returned (.tuple #[.string s, .int .i64 e]) ∧ Below w.heap.size w w' := by
  have HR := Lib.hid hr
  have HN := Lib.hid hn
  have HM := Lib.hid hm
  have HH := Lib.hid h
  have HSZ := Lib.hid hsz
  have HBad : Hid (¬ (l.all mayT = true ∧ apart l = true) → s = ⟨#[]⟩ ∧ e = 8) := Lib.hid (by
    intro hb
    unfold joinR at h
    rw [if_neg hb] at h
    obtain ⟨h1, h2⟩ := (Prod.mk.injEq _ _ _ _).mp h
    exact ⟨ba_x (by rw [← h1]), h2.symm⟩)
  clear hr hn h hsz
  go_enter Try.func8, Try.ntmps8
  go_wp2_with fail
  go_loopg [5] n (fun gg vi wr => ∃ k : Nat, k + gg = n ∧ vi = .int .i64 k ∧ (l.take k).all mayT = true ∧ Below w.heap.size w wr)
  case atStart => exact ⟨0, by omega, rfl, rfl, Below.refl _ _⟩
  case round =>
    obtain ⟨k, hk, rfl, hall, hbw⟩ := hrel
    have hMM := HM.out
    have HBW := Lib.hid hbw
    by_cases hlt : k < n
    · have hk1 : k < l.length := by rw [HN.out]; exact hlt
      obtain ⟨b0, off, x, u, a1, p1, rfl, hbB, c0, c1, c2, c3, htk⟩ := tk_at (HR.out.on hbw) hk1 (HSZ.out _ (List.getElem_mem hk1))
      obtain ⟨t, ht⟩ : ∃ t, l[k]'hk1 = t := ⟨_, rfl⟩
      rw [ht] at c0 c2 htk
      obtain ⟨b, hb⟩ : ∃ b, mayT t = b := ⟨_, rfl⟩
      have CM : Hid (Calls Try.prog 11 #[.agg #[.int .u8 (t.kind : Int), .string x, .slice a1 t.attrs.length p1, .string u]] wr fun e w' => e = .returned (.bool b) ∧ Below wr.heap.size wr w') := Lib.hid (rmay9 t x u a1 p1 wr htk b hb)
      have bk : (0 : Int) ≤ (k : Int) ∧ (k : Int) < (n : Int) := by omega
      cases b with
      | false =>
        obtain ⟨rfl, rfl⟩ := HBad.out (fun hh => by
          have := List.all_eq_true.1 hh.1 _ (List.getElem_mem hk1)
          rw [ht, hb] at this
          cases this)
        clear hb ht htk hbw hall
        go_wp2_with (first
          | (go_at_call 11; (with_reducible refine (CM.out).mono ?_); rintro e1 w1 ⟨rfl, hb1⟩)
          | fail)
        go_ret2
        exact ⟨rfl, bel_in9 HBW.out hb1⟩
      | true =>
        have HA : Hid ((l.take (k + 1)).all mayT = true) := Lib.hid (by rw [List.take_succ_eq_append_getElem hk1, List.all_append, hall, ht]; simp [hb])
        clear hb ht htk hbw hall
        go_wp2_with (first
          | (go_at_call 11; (with_reducible refine (CM.out).mono ?_); rintro e1 w1 ⟨rfl, hb1⟩)
          | fail)
        go_roundg (gk - 1)
        case rel => exact ⟨k + 1, by omega, by go_num, HA.out, bel_in9 HBW.out hb1⟩
        case measure => omega
    · obtain rfl : n = k := by omega
      have HAll : Hid (l.all mayT = true) := Lib.hid (by rwa [List.take_of_length_le (by rw [HN.out]; exact Nat.le_refl _)] at hall)
      clear hall hbw hlt hk
      go_wp2_with fail
      obtain ⟨wo, rfl⟩ : ∃ wo : World, wo = wr := ⟨_, rfl⟩
      go_loopg [6] n (fun gg vi wr => ∃ k : Nat, k + gg = n + 1 ∧ 1 ≤ k ∧ vi = .int .i64 k ∧ apart (l.take k) = true ∧ Below w.heap.size w wr)
      case atStart =>
        refine ⟨1, by omega, by omega, rfl, ?_, HBW.out⟩
        cases l with
        | nil => rfl
        | cons a r => rfl
      case round =>
        obtain ⟨k, hk, hk1', rfl, hap, hbw⟩ := hrel
        have HBW2 := Lib.hid hbw
        by_cases hlt : k < n
        · have hk1 : k < l.length := by rw [HN.out]; exact hlt
          have hk0 : k - 1 < l.length := by omega
          obtain ⟨b0, off, x, u, a1, p1, rfl, hbB, c0, ca1, ca2, ca3, htkA⟩ := tk_at (HR.out.on hbw) hk1 (HSZ.out _ (List.getElem_mem hk1))
          obtain ⟨b1, off1, x1, u1, a2, p2, hA, hbB1, d0, da1, da2, da3, htkB⟩ := tk_at (HR.out.on hbw) hk0 (HSZ.out _ (List.getElem_mem hk0))
          cases hA
          clear htkA htkB ca1 ca2 ca3 da1 da2 da3
          obtain ⟨i, hi⟩ : ∃ i : Nat, k - 1 = i := ⟨_, rfl⟩
          obtain ⟨za, hza⟩ : ∃ za : Int, ((l[k - 1]'hk0).kind : Int) = za := ⟨_, rfl⟩
          obtain ⟨zb, hzb⟩ : ∃ zb : Int, ((l[k]'hk1).kind : Int) = zb := ⟨_, rfl⟩
          have hbad := @apart_bad l k hk1' hk1
          have hnext := @apart_next l k hk1' hk1 hap
          rw [hza, hi] at d0
          rw [hzb] at c0
          have wk : IntKind.i64.wrap ((k : Int) - 1) = (i : Int) := by rw [IntWalk.i64_in _ (by omega)]; omega
          have bk : (0 : Int) ≤ (k : Int) ∧ (k : Int) < (n : Int) := by omega
          have bi : (0 : Int) ≤ (i : Int) ∧ (i : Int) < (n : Int) := by omega
          by_cases ha : za = 4
          · by_cases hb : zb = 4
            · obtain ⟨rfl, rfl⟩ := HBad.out (fun hh => by
                rw [hbad (by omega) (by omega)] at hh
                exact absurd hh.2 (by decide))
              have q1 : (za == 4) = true := by simpa using ha
              have q2 : (zb == 4) = true := by simpa using hb
              clear hbad hnext hap hbw hza hzb ha hb hk0 hk1
              go_wp2_with fail
              go_ret2
              exact ⟨rfl, HBW2.out⟩
            · have HNX := Lib.hid (hnext (fun hh => hb (by omega)))
              have q1 : (za == 4) = true := by simpa using ha
              have q2 : (zb == 4) = false := by simpa using hb
              clear hbad hnext hap hbw hza hzb ha hb hk0 hk1
              go_wp2_with fail
              go_roundg (gk - 1)
              case rel => exact ⟨k + 1, by omega, by omega, by go_num, HNX.out, HBW2.out⟩
              case measure => omega
          · have HNX := Lib.hid (hnext (fun hh => ha (by omega)))
            have q1 : (za == 4) = false := by simpa using ha
            clear hbad hnext hap hbw hza hzb ha hk0 hk1
            go_wp2_with fail
            go_roundg (gk - 1)
            case rel => exact ⟨k + 1, by omega, by omega, by go_num, HNX.out, HBW2.out⟩
            case measure => omega
        · have HAp : Hid (apart l = true) := Lib.hid (by rwa [List.take_of_length_le (by rw [HN.out]; omega)] at hap)
          have hjo := HH.out
          unfold joinR at hjo
          rw [if_pos ⟨HAll.out, HAp.out⟩, HN.out] at hjo
          have bk : ¬ (k : Int) < (n : Int) := by omega
          clear hap hbw hlt hk
          by_cases h512 : 512 < n
          · rw [if_pos (.inl h512)] at hjo
            obtain ⟨rfl, rfl⟩ : (⟨#[]⟩ : ByteArray) = s ∧ (4 : Int) = e := by
              obtain ⟨h1, h2⟩ := (Prod.mk.injEq _ _ _ _).mp hjo
              exact ⟨ba_x (by rw [← h1]), h2⟩
            have d0 : decide ((512 : Int) < (n : Int)) = true := by simp; omega
            clear hjo HH HBad
            go_wp2_with fail
            go_ret2
            exact ⟨rfl, HBW2.out⟩
          · have d0 : decide ((512 : Int) < (n : Int)) = false := by simp; omega
            have HJ := Lib.hid hjo
            clear hjo HH HBad
            go_wp2_with fail
            obtain ⟨wq, rfl⟩ : ∃ wq : World, wq = wr := ⟨_, rfl⟩
            go_loopg [4, 7] n (fun gg vs vi wr => ∃ (k : Nat) (y : ByteArray), k + gg = n ∧ vi = .int .i64 k ∧ vs = .string y ∧ Hid (y.data.toList = (l.take k).flatMap writeT) ∧ y.size ≤ k * 8000009000000 ∧ Below w.heap.size w wr)
            case atStart => exact ⟨0, ⟨#[]⟩, by omega, rfl, rfl, Lib.hid rfl, Nat.zero_le _, HBW2.out⟩
            case round =>
              obtain ⟨k, y, hk, rfl, rfl, hy, hys, hbw⟩ := hrel
              have HBW3 := Lib.hid hbw
              by_cases hlt : k < n
              · have hk1 : k < l.length := by rw [HN.out]; exact hlt
                have hsm := HSZ.out _ (List.getElem_mem hk1)
                obtain ⟨b0, off, x, u, a1, p1, rfl, hbB, c0, c1, c2, c3, htk⟩ := tk_at (HR.out.on hbw) hk1 hsm
                obtain ⟨t, ht⟩ : ∃ t, l[k]'hk1 = t := ⟨_, rfl⟩
                rw [ht] at c0 c2 htk hsm
                obtain ⟨v, hv⟩ : ∃ v : ByteArray, v.data.toList = writeT t := ⟨⟨(writeT t).toArray⟩, rfl⟩
                have CW : Hid (Calls Try.prog 15 #[.agg #[.int .u8 (t.kind : Int), .string x, .slice a1 t.attrs.length p1, .string u]] wr fun e w' => e = .returned (.string v) ∧ Below wr.heap.size wr w') := Lib.hid (rwrit9 t x u a1 p1 wr htk v hv)
                have hvs : v.size ≤ 8000009000000 := by rw [← ba_l, hv]; exact writeT_len hsm
                have bk : (0 : Int) ≤ (k : Int) ∧ (k : Int) < (n : Int) := by omega
                have hys2 : y.size ≤ 4200000000000000 := by omega
                have HNS : Hid ((y ++ v).size ≤ (k + 1) * 8000009000000) := Lib.hid (by
                  rw [← ba_l, ba_app, List.length_append, ba_l, ba_l]
                  omega)
                have HNX : Hid ((y ++ v).data.toList = (l.take (k + 1)).flatMap writeT) := Lib.hid (by
                  rw [ba_app, hy.out, hv, List.take_succ_eq_append_getElem hk1, List.flatMap_append, ht]
                  simp)
                have l5 : ¬ 9223372036854775807 < y.size + v.size := by omega
                clear hbw hsm htk hv ht hy
                go_wp2_with (first
                  | (go_at_call 15; (with_reducible refine (CW.out).mono ?_); rintro e1 w1 ⟨rfl, hb1⟩)
                  | fail)
                go_roundg (gk - 1)
                case rel => exact ⟨k + 1, _, by omega, by go_num, rfl, HNX, HNS.out, bel_in9 HBW3.out hb1⟩
                case measure => omega
              · obtain rfl : n = k := by omega
                have hyl : y.data.toList = l.flatMap writeT := by
                  have := hy.out
                  rwa [List.take_of_length_le (by rw [HN.out]; exact Nat.le_refl _)] at this
                have hjo := HJ.out
                rw [← hyl, ba_l] at hjo
                by_cases h16 : 16384 < y.size
                · rw [if_pos (.inr h16)] at hjo
                  obtain ⟨rfl, rfl⟩ : (⟨#[]⟩ : ByteArray) = s ∧ (4 : Int) = e := by
                    obtain ⟨h1, h2⟩ := (Prod.mk.injEq _ _ _ _).mp hjo
                    exact ⟨ba_x (by rw [← h1]), h2⟩
                  have d1 : decide ((16384 : Int) < (y.size : Int)) = true := by simp; omega
                  clear hjo HJ hyl hy
                  go_wp2_with fail
                  go_ret2
                  exact ⟨rfl, HBW3.out⟩
                · rw [if_neg (fun hh => hh.elim h512 h16)] at hjo
                  obtain ⟨rfl, rfl⟩ : y = s ∧ (0 : Int) = e := by
                    obtain ⟨h1, h2⟩ := (Prod.mk.injEq _ _ _ _).mp hjo
                    exact ⟨ba_x h1, h2⟩
                  have d1 : decide ((16384 : Int) < (y.size : Int)) = false := by simp; omega
                  clear hjo HJ hyl hy
                  go_wp2_with fail
                  go_ret2
                  exact ⟨rfl, HBW3.out⟩
end Hx
end Go.Proofs.Ytichboamakgabaa
