/-
  Contracts of package text: Next.
-/
import Derived.Test.YtjpebnnifbnjjaaTextQ
namespace Go.Proofs.Ytjpebnnifbnjjaa
open Go.RowKit
namespace Hx
open Tx
set_option linter.unusedVariables false
set_option maxRecDepth 100000 in
theorem next5_arg (s : ByteArray) (at' : Int) (w : World) (h : at' < 0 ∨ (s.size : Int) ≤ at') :
    Calls Try.prog 10 #[.string s, .int .i64 at'] w fun e w' => e = .returned (.tuple #[.int .i64 0, .int .i64 0, .int .i64 2]) ∧ Below w.heap.size w w' := by
  by_cases h0 : at' < 0
  · have d0 : decide (at' < 0) = true := by simpa using h0
    clear h
    go_enter Try.func10, Try.ntmps10
    go_wp2_with fail
    refine bodyPost_ret (v := .tuple #[.int .i64 0, .int .i64 0, .int .i64 2]) ?_ rfl ⟨rfl, Below.refl _ _⟩
    simp [results, Try.results10, go_sem]
  · have d0 : decide (at' < 0) = false := by simpa using h0
    have d1 : decide ((s.size : Int) ≤ at') = true := by simp; omega
    clear h h0
    go_enter Try.func10, Try.ntmps10
    go_wp2_with fail
    refine bodyPost_ret (v := .tuple #[.int .i64 0, .int .i64 0, .int .i64 2]) ?_ rfl ⟨rfl, Below.refl _ _⟩
    simp [results, Try.results10, go_sem]
set_option maxHeartbeats 2000000 in
set_option maxRecDepth 100000 in
theorem next5 (s : ByteArray) (a : Nat) (w : World) (hm : s.size ≤ 1000000) (ha : a < s.size) (p k q : Nat) (h : nextR (s.data.toList.drop a) = (p, k, q)) :
    Calls Try.prog 10 #[.string s, .int .i64 a] w fun e w' => e = .returned (.tuple #[.int .i64 p, .int .i64 k, .int .i64 q]) ∧ Below w.heap.size w w' := by
  obtain ⟨t, ht⟩ : ∃ t, s.extract a s.size = t := ⟨_, rfl⟩
  have htl : t = ⟨(s.data.toList.drop a).toArray⟩ := by rw [← ht]; exact extract_drop s a
  have htd : t.data.toList = s.data.toList.drop a := by rw [htl]
  have hts : t.size + a = s.size := by rw [htl, size_mk5, List.length_drop, ba_len5]; omega
  have d0 : decide ((a : Int) < 0) = false := by simp
  have d1 : decide ((s.size : Int) ≤ (a : Int)) = false := by simp; omega
  have b0 : (0 : Int) ≤ (a : Int) ∧ (a : Int) ≤ (s.size : Int) := by omega
  have b1 : a ≤ s.size := by omega
  rw [← htd] at h
  have hn := nextR_match _ _ _ _ h
  obtain ⟨n, hnn⟩ : ∃ n, t.size = n := ⟨_, rfl⟩
  have g0 : IntKind.i64.wrap ((s.size : Int) - (a : Int)) = (n : Int) := by rw [IntWalk.i64_in _ (by omega)]; omega
  have hpos : 0 < t.size := by omega
  obtain ⟨c, hc⟩ : ∃ c, runeL t.data.toList = c := ⟨_, rfl⟩
  have hcle : c ≤ 1114111 := by rw [← hc]; exact runeL_le _
  have g1 : IntKind.i64.wrap (c : Int) = (c : Int) := IntWalk.i64_in _ (by omega)
  have hd0 := step_rune t 0 hpos
  rw [List.drop_zero, hc] at hd0
  obtain ⟨k0, hk0⟩ : ∃ k0, (Utf8.decode t 0).2 = k0 := ⟨_, rfl⟩
  have hdec : Utf8.decode t 0 = (c, k0) := Prod.ext hd0 hk0
  have hk1 : 1 ≤ k0 ∧ (one t.data.toList = none ∨ (p = c ∧ k = k0 ∧ q = 0 ∧ k0 ≤ n)) := by
    have e := decode_eq t 0 hpos
    rw [List.drop_zero, hdec] at e
    cases ho : one t.data.toList with
    | none =>
      refine ⟨?_, .inl rfl⟩
      cases hdl : decL t.data.toList with
      | none => rw [hdl] at e; cases e; decide
      | some x => rw [hdl] at e; cases e; obtain ⟨_, h2, _⟩ := dec_sound _ _ _ hdl; rw [h2]; exact (enc_length _).1
    | some x =>
      obtain ⟨p', k'⟩ := x
      rw [ho] at hn
      obtain ⟨rfl, rfl, rfl⟩ := hn
      obtain ⟨f1, f2, f3, f4, _⟩ := step_some t 0 p k hpos (by rw [List.drop_zero]; exact ho)
      rw [hdec] at f1
      cases f1
      exact ⟨f3, .inr ⟨rfl, rfl, rfl, by omega⟩⟩
  have HC := Lib.hid hc
  have HN1 := Lib.hid hnn
  have hnx0 : ∀ ty, (Instr.next (.pointer (some ⟨w.heap.size, 0, none⟩)) true ty).run Try.prog (w.iter t 0) = .ok (.tuple #[.bool true, .int .i64 0, .int .i32 c]) (w.iter t (0 + k0)) := by
    intro ty
    have := run_next_any (P := Try.prog) w t 0 ty hpos
    rw [hdec] at this
    exact this
  rw [Nat.zero_add] at hnx0
  have HNX0 := Lib.hid hnx0
  cases hob : one t.data.toList with
  | none =>
    rw [hob] at hn
    obtain ⟨rfl, rfl, rfl⟩ := hn
    have HOB : Hid ((one t.data.toList).isSome = false) := by show _ = _; rw [hob]; rfl
    have hk1' := hk1.1
    clear htl htd hts h hnn hpos hc hcle hd0 hk0 hdec hk1 hob hnx0 hm
    go_enter Try.func10, Try.ntmps10
    go_wp2_with fail
    go_loopg [5, 7, 8, 9] 2 (fun g x5 x7 x8 x9 wr => (g = 2 ∧ x5 = .int .i64 n ∧ x7 = .int .i32 0 ∧ wr = w.iter t 0) ∨ (g = 1 ∧ x5 = .int .i64 n ∧ x7 = .int .i32 c ∧ wr = w.iter t k0))
    case atStart => exact .inl ⟨rfl, rfl, rfl, rfl⟩
    case round =>
      rcases hrel with ⟨rfl, rfl, rfl, rfl⟩ | ⟨rfl, rfl, rfl, rfl⟩
      · have hnx := HNX0.out
        go_wp2_with fail
        go_roundg 1
        case rel => exact .inr ⟨rfl, rfl, rfl, rfl⟩
        case measure => omega
      · by_cases hlt : k0 < t.size
        · have hnx : ∀ ty, (Instr.next (.pointer (some ⟨w.heap.size, 0, none⟩)) true ty).run Try.prog (w.iter t k0) = _ := fun ty => run_next_any w t k0 ty hlt
          have d2 : decide ((0 : Int) < (k0 : Int)) = true := by simp; omega
          go_wp2_with (go_at_call 21; (with_reducible refine (begins5 t.data.toList t c false _ (ba_eq5 t) HC.out HOB.out).mono ?_); rintro e w1 ⟨rfl, rfl⟩)
          refine bodyPost_ret (v := .tuple #[.int .i64 0, .int .i64 0, .int .i64 50]) ?_ rfl ⟨rfl, below_iter w t _⟩
          simp [results, Try.results10, go_sem]
        · have hnx : ∀ ty, (Instr.next (.pointer (some ⟨w.heap.size, 0, none⟩)) true ty).run Try.prog (w.iter t k0) = _ := fun ty => run_next_end w t k0 ty hlt
          go_wp2_with (go_at_call 21; (with_reducible refine (begins5 t.data.toList t c false _ (ba_eq5 t) HC.out HOB.out).mono ?_); rintro e w1 ⟨rfl, rfl⟩)
          refine bodyPost_ret (v := .tuple #[.int .i64 0, .int .i64 0, .int .i64 50]) ?_ rfl ⟨rfl, below_iter w t _⟩
          simp [results, Try.results10, go_sem]
  | some x =>
    have HOB : Hid ((one t.data.toList).isSome = true) := by show _ = _; rw [hob]; rfl
    obtain ⟨hk1', hk2⟩ := hk1
    rw [hob] at hk2
    obtain ⟨rfl, rfl, rfl, hk3⟩ : p = c ∧ k = k0 ∧ q = 0 ∧ k0 ≤ n := by
      rcases hk2 with h | h
      · cases h
      · exact h
    clear htl htd hts h hnn hpos hc hcle hd0 hk0 hdec hk2 hob hnx0 hm hn
    go_enter Try.func10, Try.ntmps10
    go_wp2_with fail
    go_loopg [5, 7, 8, 9] 2 (fun g x5 x7 x8 x9 wr => (g = 2 ∧ x5 = .int .i64 n ∧ x7 = .int .i32 0 ∧ wr = w.iter t 0) ∨ (g = 1 ∧ x5 = .int .i64 n ∧ x7 = .int .i32 p ∧ wr = w.iter t k))
    case atStart => exact .inl ⟨rfl, rfl, rfl, rfl⟩
    case round =>
      rcases hrel with ⟨rfl, rfl, rfl, rfl⟩ | ⟨rfl, rfl, rfl, rfl⟩
      · have hnx := HNX0.out
        go_wp2_with fail
        go_roundg 1
        case rel => exact .inr ⟨rfl, rfl, rfl, rfl⟩
        case measure => omega
      · by_cases hlt : k < t.size
        · have hnx : ∀ ty, (Instr.next (.pointer (some ⟨w.heap.size, 0, none⟩)) true ty).run Try.prog (w.iter t k) = _ := fun ty => run_next_any w t k ty hlt
          have d2 : decide ((0 : Int) < (k : Int)) = true := by simp; omega
          go_wp2_with (go_at_call 21; (with_reducible refine (begins5 t.data.toList t p true _ (ba_eq5 t) HC.out HOB.out).mono ?_); rintro e w1 ⟨rfl, rfl⟩)
          refine bodyPost_ret (v := .tuple #[.int .i64 p, .int .i64 k, .int .i64 0]) ?_ rfl ⟨rfl, below_iter w t _⟩
          simp [results, Try.results10, go_sem]
        · have hnx : ∀ ty, (Instr.next (.pointer (some ⟨w.heap.size, 0, none⟩)) true ty).run Try.prog (w.iter t k) = _ := fun ty => run_next_end w t k ty hlt
          have hkn : n = k := by have := HN1.out; omega
          subst hkn
          go_wp2_with (go_at_call 21; (with_reducible refine (begins5 t.data.toList t p true _ (ba_eq5 t) HC.out HOB.out).mono ?_); rintro e w1 ⟨rfl, rfl⟩)
          refine bodyPost_ret (v := .tuple #[.int .i64 p, .int .i64 n, .int .i64 0]) ?_ rfl ⟨rfl, below_iter w t _⟩
          simp [results, Try.results10, go_sem]
end Hx
end Go.Proofs.Ytjpebnnifbnjjaa
