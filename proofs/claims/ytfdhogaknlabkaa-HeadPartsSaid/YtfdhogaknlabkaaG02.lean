/-
  Texts of one seat, put together: AscT, MemS, AscU, AscL.
-/
import Derived.Test.YtfdhogaknlabkaaG01
import Derived.Test.YtfdhogaknlabkaaG00
import Derived.OwnWalk
import Derived.BigQuiet
import Derived.Deep.QuietTactic
import Derived.Deep.LoopGhost
import Derived.Test.YtfdhogaknlabkaaShelf
set_option linter.unusedSimpArgs false
set_option linter.unusedVariables false
namespace Go.Proofs.Ytfdhogaknlabkaa
open Go.RowKit
namespace Hx
open As
set_option linter.unusedVariables false
set_option maxHeartbeats 1000000 in
set_option maxRecDepth 100000 in
/-- ref.in. -/
theorem rin7 (s : ByteArray) (c : UInt8) (b : Bool) (w : World) (hm : s.size ≤ 1000000) (h : s.data.toList.contains c = b) :
    Calls Try.prog 73 #[.string s, .int .u8 c.toNat] w fun e w' => e = .returned (.bool b) ∧ w = w' := by
  have HM := Lib.hid hm
  have HB := Lib.hid h
  clear hm h
  go_enter Try.func73, Try.ntmps73
  go_wp2_with fail
  go_loopg [5] s.size (fun gg i wr => ∃ k : Nat, k + gg = s.size ∧ i = .int .i64 k ∧ w = wr ∧ (s.data.toList.take k).contains c = false)
  case atStart => exact ⟨0, by omega, rfl, rfl, rfl⟩
  case round =>
    obtain ⟨k, hk, rfl, rfl, hno⟩ := hrel
    have HNO := Lib.hid hno
    have hMM := HM.out
    clear hno
    by_cases hlt : k < s.size
    · obtain ⟨d, hd, hat⟩ := byte_at s k hlt
      have bk : (0 : Int) ≤ (k : Int) ∧ (k : Int) < (s.size : Int) := by omega
      by_cases hdc : d = c
      · subst hdc
        have d1 : ((d.toNat : Int) == (d.toNat : Int)) = true := by simp
        obtain rfl : true = b := by
          rw [← HB.out, List.contains_iff_mem.2 (List.mem_of_getElem? hd)]
        clear hd
        go_wp2_with fail
        go_ret
        exact ⟨rfl, rfl⟩
      · have hne : d.toNat ≠ c.toNat := fun e => hdc (UInt8.toNat_inj.1 e)
        have d1 : ((d.toNat : Int) == (c.toNat : Int)) = false := by simp; omega
        have d2 : (d.toNat == c.toNat) = false := by simpa using hne
        have HN2 : Hid ((s.data.toList.take (k + 1)).contains c = false) := by
          show _ = _
          rw [take_next hd]
          have h1 := HNO.out
          simp only [List.contains_eq_mem, decide_eq_false_iff_not, List.mem_append, List.mem_singleton] at h1 ⊢
          rintro (h | h)
          · exact h1 h
          · exact hdc h.symm
        clear hd hdc hne
        go_wp2_with fail
        go_roundg (gk - 1)
        case rel => exact ⟨k + 1, by omega, by go_num, rfl, HN2.out⟩
        case measure => omega
    · obtain rfl : s.size = k := by omega
      obtain rfl : false = b := by
        rw [← HB.out, ← HNO.out, List.take_of_length_le (by rw [ba_len7]; exact Nat.le_refl _)]
      go_wp2_with fail
      go_ret
      exact ⟨rfl, rfl⟩
theorem in_lit (c : UInt8) : ([33, 35, 36, 37, 38, 39, 42, 43, 45, 46, 94, 95, 96, 124, 126] : List UInt8).contains c = ([33, 35, 36, 37, 38, 39, 42, 43, 45, 46, 94, 95, 96, 124, 126] : List Nat).contains c.toNat :=
  u8_all (fun c => ([33, 35, 36, 37, 38, 39, 42, 43, 45, 46, 94, 95, 96, 124, 126] : List UInt8).contains c = ([33, 35, 36, 37, 38, 39, 42, 43, 45, 46, 94, 95, 96, 124, 126] : List Nat).contains c.toNat) (by decide +kernel) c
theorem rin_lit (c : UInt8) (b : Bool) (w : World) (h : ([33, 35, 36, 37, 38, 39, 42, 43, 45, 46, 94, 95, 96, 124, 126] : List Nat).contains c.toNat = b) :
    Calls Try.prog 73 #[.string ⟨#[33, 35, 36, 37, 38, 39, 42, 43, 45, 46, 94, 95, 96, 124, 126]⟩, .int .u8 c.toNat] w fun e w' => e = .returned (.bool b) ∧ w = w' :=
  rin7 _ c b w (by decide) (by rw [← h]; exact in_lit c)
theorem all_takeT (p : UInt8 → Bool) {l : List UInt8} {k : Nat} {c : UInt8} (h : l[k]? = some c) (h1 : (l.take k).all p = true) (h2 : p c = true) : (l.take (k + 1)).all p = true := by
  rw [take_next h, List.all_append, h1]
  simp [h2]
theorem all_noT (p : UInt8 → Bool) {l : List UInt8} {k : Nat} {c : UInt8} (h : l[k]? = some c) (h2 : p c = false) : l.all p = false := by
  rw [List.all_eq_false]
  exact ⟨c, List.mem_of_getElem? h, by simp [h2]⟩
set_option maxHeartbeats 8000000 in
set_option maxRecDepth 100000 in
/-- ref.Token. -/
theorem rtoken7 (s : ByteArray) (b : Bool) (w : World) (hm : s.size ≤ 1000000) (h : isTok s.data.toList = b) :
    Calls Try.prog 49 #[.string s] w fun e w' => e = .returned (.bool b) ∧ Below w.heap.size w w' := by
  have HM := Lib.hid hm
  have HB := Lib.hid h
  clear hm h
  go_enter Try.func49, Try.ntmps49
  go_wp2_with fail
  go_loopg [3] s.size (fun gg i wr => ∃ k : Nat, k + gg = s.size ∧ i = .int .i64 k ∧ w = wr ∧ (s.data.toList.take k).all tokb = true)
  case atStart => exact ⟨0, by omega, rfl, rfl, rfl⟩
  case round =>
    obtain ⟨k, hk, rfl, rfl, hall⟩ := hrel
    have HALL := Lib.hid hall
    have hMM := HM.out
    clear hall
    by_cases hlt : k < s.size
    · obtain ⟨c, hc, hat⟩ := byte_at s k hlt
      have bk : (0 : Int) ≤ (k : Int) ∧ (k : Int) < (s.size : Int) := by omega
      have hcl := c.toNat_lt
      have HNEXT : Hid (tokb c = true → (s.data.toList.take (k + 1)).all tokb = true) := fun h => all_takeT tokb hc HALL.out h
      have HSTOP : Hid (tokb c = false → isTok s.data.toList = false) := fun h => by
        show _ = _
        unfold isTok
        rw [all_noT tokb hc h]
        rfl
      have HTK : Hid (tokb c = ((decide (97 ≤ c.toNat) && decide (c.toNat ≤ 122)) || (decide (65 ≤ c.toNat) && decide (c.toNat ≤ 90)) || (decide (48 ≤ c.toNat) && decide (c.toNat ≤ 57)) || ([33, 35, 36, 37, 38, 39, 42, 43, 45, 46, 94, 95, 96, 124, 126] : List Nat).contains c.toNat)) := Lib.hid rfl
      clear hc
      rcases (show c.toNat ≤ 47 ∨ (48 ≤ c.toNat ∧ c.toNat ≤ 57) ∨ (58 ≤ c.toNat ∧ c.toNat ≤ 64) ∨ (65 ≤ c.toNat ∧ c.toNat ≤ 90) ∨ (91 ≤ c.toNat ∧ c.toNat ≤ 96) ∨ (97 ≤ c.toNat ∧ c.toNat ≤ 122) ∨ 123 ≤ c.toNat by omega) with hr | hr | hr | hr | hr | hr | hr
      · have d0 : decide ((97 : Int) ≤ (c.toNat : Int)) = false := by simp; omega
        have e0 : decide (97 ≤ c.toNat) = false := by simp; omega
        have f0 : ¬ 97 ≤ c.toNat := by omega
        have d1 : decide ((c.toNat : Int) ≤ 122) = true := by simp; omega
        have e1 : decide (c.toNat ≤ 122) = true := by simp; omega
        have f1 : c.toNat ≤ 122 := by omega
        have d2 : decide ((65 : Int) ≤ (c.toNat : Int)) = false := by simp; omega
        have e2 : decide (65 ≤ c.toNat) = false := by simp; omega
        have f2 : ¬ 65 ≤ c.toNat := by omega
        have d3 : decide ((c.toNat : Int) ≤ 90) = true := by simp; omega
        have e3 : decide (c.toNat ≤ 90) = true := by simp; omega
        have f3 : c.toNat ≤ 90 := by omega
        have d4 : decide ((48 : Int) ≤ (c.toNat : Int)) = false := by simp; omega
        have e4 : decide (48 ≤ c.toNat) = false := by simp; omega
        have f4 : ¬ 48 ≤ c.toNat := by omega
        have d5 : decide ((c.toNat : Int) ≤ 57) = true := by simp; omega
        have e5 : decide (c.toNat ≤ 57) = true := by simp; omega
        have f5 : c.toNat ≤ 57 := by omega
        have HK0 : Hid (tokb c = ([33, 35, 36, 37, 38, 39, 42, 43, 45, 46, 94, 95, 96, 124, 126] : List Nat).contains c.toNat) := by show _ = _; rw [HTK.out, e0, e1, e2, e3, e4, e5]; simp
        clear e0 e1 e2 e3 e4 e5 hr
        cases hin : ([33, 35, 36, 37, 38, 39, 42, 43, 45, 46, 94, 95, 96, 124, 126] : List Nat).contains c.toNat
        · have HIN := Lib.hid hin
          obtain rfl : false = b := by rw [← HB.out]; exact (HSTOP.out (HK0.out.trans hin)).symm
          clear hin
          go_wp2_with (go_at_call 73; (with_reducible refine (rin_lit c false w HIN.out).mono ?_); rintro e w1 ⟨rfl, rfl⟩)
          go_ret
          exact ⟨rfl, Below.refl _ _⟩
        · have HIN := Lib.hid hin
          have HK1 := Lib.hid (HNEXT.out (HK0.out.trans hin))
          clear hin
          go_wp2_with (go_at_call 73; (with_reducible refine (rin_lit c true w HIN.out).mono ?_); rintro e w1 ⟨rfl, rfl⟩)
          go_roundg (gk - 1)
          case rel => exact ⟨k + 1, by omega, by go_num, rfl, HK1.out⟩
          case measure => omega
      · have d0 : decide ((97 : Int) ≤ (c.toNat : Int)) = false := by simp; omega
        have e0 : decide (97 ≤ c.toNat) = false := by simp; omega
        have f0 : ¬ 97 ≤ c.toNat := by omega
        have d1 : decide ((c.toNat : Int) ≤ 122) = true := by simp; omega
        have e1 : decide (c.toNat ≤ 122) = true := by simp; omega
        have f1 : c.toNat ≤ 122 := by omega
        have d2 : decide ((65 : Int) ≤ (c.toNat : Int)) = false := by simp; omega
        have e2 : decide (65 ≤ c.toNat) = false := by simp; omega
        have f2 : ¬ 65 ≤ c.toNat := by omega
        have d3 : decide ((c.toNat : Int) ≤ 90) = true := by simp; omega
        have e3 : decide (c.toNat ≤ 90) = true := by simp; omega
        have f3 : c.toNat ≤ 90 := by omega
        have d4 : decide ((48 : Int) ≤ (c.toNat : Int)) = true := by simp; omega
        have e4 : decide (48 ≤ c.toNat) = true := by simp; omega
        have f4 : 48 ≤ c.toNat := by omega
        have d5 : decide ((c.toNat : Int) ≤ 57) = true := by simp; omega
        have e5 : decide (c.toNat ≤ 57) = true := by simp; omega
        have f5 : c.toNat ≤ 57 := by omega
        have HK1 : Hid (tokb c = true) := by show _ = _; rw [HTK.out, e0, e1, e2, e3, e4, e5]; simp
        clear e0 e1 e2 e3 e4 e5 hr
        go_wp2_with fail
        go_roundg (gk - 1)
        case rel => exact ⟨k + 1, by omega, by go_num, rfl, HNEXT.out HK1.out⟩
        case measure => omega
      · have d0 : decide ((97 : Int) ≤ (c.toNat : Int)) = false := by simp; omega
        have e0 : decide (97 ≤ c.toNat) = false := by simp; omega
        have f0 : ¬ 97 ≤ c.toNat := by omega
        have d1 : decide ((c.toNat : Int) ≤ 122) = true := by simp; omega
        have e1 : decide (c.toNat ≤ 122) = true := by simp; omega
        have f1 : c.toNat ≤ 122 := by omega
        have d2 : decide ((65 : Int) ≤ (c.toNat : Int)) = false := by simp; omega
        have e2 : decide (65 ≤ c.toNat) = false := by simp; omega
        have f2 : ¬ 65 ≤ c.toNat := by omega
        have d3 : decide ((c.toNat : Int) ≤ 90) = true := by simp; omega
        have e3 : decide (c.toNat ≤ 90) = true := by simp; omega
        have f3 : c.toNat ≤ 90 := by omega
        have d4 : decide ((48 : Int) ≤ (c.toNat : Int)) = true := by simp; omega
        have e4 : decide (48 ≤ c.toNat) = true := by simp; omega
        have f4 : 48 ≤ c.toNat := by omega
        have d5 : decide ((c.toNat : Int) ≤ 57) = false := by simp; omega
        have e5 : decide (c.toNat ≤ 57) = false := by simp; omega
        have f5 : ¬ c.toNat ≤ 57 := by omega
        have HK0 : Hid (tokb c = ([33, 35, 36, 37, 38, 39, 42, 43, 45, 46, 94, 95, 96, 124, 126] : List Nat).contains c.toNat) := by show _ = _; rw [HTK.out, e0, e1, e2, e3, e4, e5]; simp
        clear e0 e1 e2 e3 e4 e5 hr
        cases hin : ([33, 35, 36, 37, 38, 39, 42, 43, 45, 46, 94, 95, 96, 124, 126] : List Nat).contains c.toNat
        · have HIN := Lib.hid hin
          obtain rfl : false = b := by rw [← HB.out]; exact (HSTOP.out (HK0.out.trans hin)).symm
          clear hin
          go_wp2_with (go_at_call 73; (with_reducible refine (rin_lit c false w HIN.out).mono ?_); rintro e w1 ⟨rfl, rfl⟩)
          go_ret
          exact ⟨rfl, Below.refl _ _⟩
        · have HIN := Lib.hid hin
          have HK1 := Lib.hid (HNEXT.out (HK0.out.trans hin))
          clear hin
          go_wp2_with (go_at_call 73; (with_reducible refine (rin_lit c true w HIN.out).mono ?_); rintro e w1 ⟨rfl, rfl⟩)
          go_roundg (gk - 1)
          case rel => exact ⟨k + 1, by omega, by go_num, rfl, HK1.out⟩
          case measure => omega
      · have d0 : decide ((97 : Int) ≤ (c.toNat : Int)) = false := by simp; omega
        have e0 : decide (97 ≤ c.toNat) = false := by simp; omega
        have f0 : ¬ 97 ≤ c.toNat := by omega
        have d1 : decide ((c.toNat : Int) ≤ 122) = true := by simp; omega
        have e1 : decide (c.toNat ≤ 122) = true := by simp; omega
        have f1 : c.toNat ≤ 122 := by omega
        have d2 : decide ((65 : Int) ≤ (c.toNat : Int)) = true := by simp; omega
        have e2 : decide (65 ≤ c.toNat) = true := by simp; omega
        have f2 : 65 ≤ c.toNat := by omega
        have d3 : decide ((c.toNat : Int) ≤ 90) = true := by simp; omega
        have e3 : decide (c.toNat ≤ 90) = true := by simp; omega
        have f3 : c.toNat ≤ 90 := by omega
        have d4 : decide ((48 : Int) ≤ (c.toNat : Int)) = true := by simp; omega
        have e4 : decide (48 ≤ c.toNat) = true := by simp; omega
        have f4 : 48 ≤ c.toNat := by omega
        have d5 : decide ((c.toNat : Int) ≤ 57) = false := by simp; omega
        have e5 : decide (c.toNat ≤ 57) = false := by simp; omega
        have f5 : ¬ c.toNat ≤ 57 := by omega
        have HK1 : Hid (tokb c = true) := by show _ = _; rw [HTK.out, e0, e1, e2, e3, e4, e5]; simp
        clear e0 e1 e2 e3 e4 e5 hr
        go_wp2_with fail
        go_roundg (gk - 1)
        case rel => exact ⟨k + 1, by omega, by go_num, rfl, HNEXT.out HK1.out⟩
        case measure => omega
      · have d0 : decide ((97 : Int) ≤ (c.toNat : Int)) = false := by simp; omega
        have e0 : decide (97 ≤ c.toNat) = false := by simp; omega
        have f0 : ¬ 97 ≤ c.toNat := by omega
        have d1 : decide ((c.toNat : Int) ≤ 122) = true := by simp; omega
        have e1 : decide (c.toNat ≤ 122) = true := by simp; omega
        have f1 : c.toNat ≤ 122 := by omega
        have d2 : decide ((65 : Int) ≤ (c.toNat : Int)) = true := by simp; omega
        have e2 : decide (65 ≤ c.toNat) = true := by simp; omega
        have f2 : 65 ≤ c.toNat := by omega
        have d3 : decide ((c.toNat : Int) ≤ 90) = false := by simp; omega
        have e3 : decide (c.toNat ≤ 90) = false := by simp; omega
        have f3 : ¬ c.toNat ≤ 90 := by omega
        have d4 : decide ((48 : Int) ≤ (c.toNat : Int)) = true := by simp; omega
        have e4 : decide (48 ≤ c.toNat) = true := by simp; omega
        have f4 : 48 ≤ c.toNat := by omega
        have d5 : decide ((c.toNat : Int) ≤ 57) = false := by simp; omega
        have e5 : decide (c.toNat ≤ 57) = false := by simp; omega
        have f5 : ¬ c.toNat ≤ 57 := by omega
        have HK0 : Hid (tokb c = ([33, 35, 36, 37, 38, 39, 42, 43, 45, 46, 94, 95, 96, 124, 126] : List Nat).contains c.toNat) := by show _ = _; rw [HTK.out, e0, e1, e2, e3, e4, e5]; simp
        clear e0 e1 e2 e3 e4 e5 hr
        cases hin : ([33, 35, 36, 37, 38, 39, 42, 43, 45, 46, 94, 95, 96, 124, 126] : List Nat).contains c.toNat
        · have HIN := Lib.hid hin
          obtain rfl : false = b := by rw [← HB.out]; exact (HSTOP.out (HK0.out.trans hin)).symm
          clear hin
          go_wp2_with (go_at_call 73; (with_reducible refine (rin_lit c false w HIN.out).mono ?_); rintro e w1 ⟨rfl, rfl⟩)
          go_ret
          exact ⟨rfl, Below.refl _ _⟩
        · have HIN := Lib.hid hin
          have HK1 := Lib.hid (HNEXT.out (HK0.out.trans hin))
          clear hin
          go_wp2_with (go_at_call 73; (with_reducible refine (rin_lit c true w HIN.out).mono ?_); rintro e w1 ⟨rfl, rfl⟩)
          go_roundg (gk - 1)
          case rel => exact ⟨k + 1, by omega, by go_num, rfl, HK1.out⟩
          case measure => omega
      · have d0 : decide ((97 : Int) ≤ (c.toNat : Int)) = true := by simp; omega
        have e0 : decide (97 ≤ c.toNat) = true := by simp; omega
        have f0 : 97 ≤ c.toNat := by omega
        have d1 : decide ((c.toNat : Int) ≤ 122) = true := by simp; omega
        have e1 : decide (c.toNat ≤ 122) = true := by simp; omega
        have f1 : c.toNat ≤ 122 := by omega
        have d2 : decide ((65 : Int) ≤ (c.toNat : Int)) = true := by simp; omega
        have e2 : decide (65 ≤ c.toNat) = true := by simp; omega
        have f2 : 65 ≤ c.toNat := by omega
        have d3 : decide ((c.toNat : Int) ≤ 90) = false := by simp; omega
        have e3 : decide (c.toNat ≤ 90) = false := by simp; omega
        have f3 : ¬ c.toNat ≤ 90 := by omega
        have d4 : decide ((48 : Int) ≤ (c.toNat : Int)) = true := by simp; omega
        have e4 : decide (48 ≤ c.toNat) = true := by simp; omega
        have f4 : 48 ≤ c.toNat := by omega
        have d5 : decide ((c.toNat : Int) ≤ 57) = false := by simp; omega
        have e5 : decide (c.toNat ≤ 57) = false := by simp; omega
        have f5 : ¬ c.toNat ≤ 57 := by omega
        have HK1 : Hid (tokb c = true) := by show _ = _; rw [HTK.out, e0, e1, e2, e3, e4, e5]; simp
        clear e0 e1 e2 e3 e4 e5 hr
        go_wp2_with fail
        go_roundg (gk - 1)
        case rel => exact ⟨k + 1, by omega, by go_num, rfl, HNEXT.out HK1.out⟩
        case measure => omega
      · have d0 : decide ((97 : Int) ≤ (c.toNat : Int)) = true := by simp; omega
        have e0 : decide (97 ≤ c.toNat) = true := by simp; omega
        have f0 : 97 ≤ c.toNat := by omega
        have d1 : decide ((c.toNat : Int) ≤ 122) = false := by simp; omega
        have e1 : decide (c.toNat ≤ 122) = false := by simp; omega
        have f1 : ¬ c.toNat ≤ 122 := by omega
        have d2 : decide ((65 : Int) ≤ (c.toNat : Int)) = true := by simp; omega
        have e2 : decide (65 ≤ c.toNat) = true := by simp; omega
        have f2 : 65 ≤ c.toNat := by omega
        have d3 : decide ((c.toNat : Int) ≤ 90) = false := by simp; omega
        have e3 : decide (c.toNat ≤ 90) = false := by simp; omega
        have f3 : ¬ c.toNat ≤ 90 := by omega
        have d4 : decide ((48 : Int) ≤ (c.toNat : Int)) = true := by simp; omega
        have e4 : decide (48 ≤ c.toNat) = true := by simp; omega
        have f4 : 48 ≤ c.toNat := by omega
        have d5 : decide ((c.toNat : Int) ≤ 57) = false := by simp; omega
        have e5 : decide (c.toNat ≤ 57) = false := by simp; omega
        have f5 : ¬ c.toNat ≤ 57 := by omega
        have HK0 : Hid (tokb c = ([33, 35, 36, 37, 38, 39, 42, 43, 45, 46, 94, 95, 96, 124, 126] : List Nat).contains c.toNat) := by show _ = _; rw [HTK.out, e0, e1, e2, e3, e4, e5]; simp
        clear e0 e1 e2 e3 e4 e5 hr
        cases hin : ([33, 35, 36, 37, 38, 39, 42, 43, 45, 46, 94, 95, 96, 124, 126] : List Nat).contains c.toNat
        · have HIN := Lib.hid hin
          obtain rfl : false = b := by rw [← HB.out]; exact (HSTOP.out (HK0.out.trans hin)).symm
          clear hin
          go_wp2_with (go_at_call 73; (with_reducible refine (rin_lit c false w HIN.out).mono ?_); rintro e w1 ⟨rfl, rfl⟩)
          go_ret
          exact ⟨rfl, Below.refl _ _⟩
        · have HIN := Lib.hid hin
          have HK1 := Lib.hid (HNEXT.out (HK0.out.trans hin))
          clear hin
          go_wp2_with (go_at_call 73; (with_reducible refine (rin_lit c true w HIN.out).mono ?_); rintro e w1 ⟨rfl, rfl⟩)
          go_roundg (gk - 1)
          case rel => exact ⟨k + 1, by omega, by go_num, rfl, HK1.out⟩
          case measure => omega
    · obtain rfl : s.size = k := by omega
      have hall : s.data.toList.all tokb = true := by
        have := HALL.out
        rwa [List.take_of_length_le (by rw [ba_len7]; exact Nat.le_refl _)] at this
      have hb : decide (s.size ≠ 0) = b := by
        rw [← HB.out]
        unfold isTok
        rw [hall, Bool.true_and]
        by_cases h0 : s.size = 0
        · have : s.data.toList = [] := List.eq_nil_of_length_eq_zero (by rw [ba_len7]; exact h0)
          rw [this, decide_eq_false (by simpa using h0)]
          rfl
        · cases hl : s.data.toList with
          | nil => rw [← ba_len7, hl] at h0; exact absurd rfl h0
          | cons a r => rw [decide_eq_true h0]; rfl
      by_cases h0 : s.size = 0
      · have e1 : (s.toList == (⟨#[]⟩ : ByteArray).toList) = true := by rw [empty_b]; simpa using h0
        have e2 : (s.toList == []) = true := by rw [empty_b2]; simpa using h0
        obtain rfl : false = b := by rw [← hb]; simp [h0]
        clear hall hb
        go_wp2_with fail
        go_ret
        exact ⟨rfl, Below.refl _ _⟩
      · have e1 : (s.toList == (⟨#[]⟩ : ByteArray).toList) = false := by rw [empty_b]; simpa using h0
        have e2 : (s.toList == []) = false := by rw [empty_b2]; simpa using h0
        obtain rfl : true = b := by rw [← hb]; simp [h0]
        clear hall hb
        go_wp2_with fail
        go_ret
        exact ⟨rfl, Below.refl _ _⟩
set_option maxHeartbeats 4000000 in
set_option maxRecDepth 100000 in
/-- ref.Plain. -/
theorem rplain7 (s : ByteArray) (b : Bool) (w : World) (hm : s.size ≤ 1000000) (h : plain s.data.toList = b) :
    Calls Try.prog 68 #[.string s] w fun e w' => e = .returned (.bool b) ∧ Below w.heap.size w w' := by
  have HM := Lib.hid hm
  have HB := Lib.hid h
  clear hm h
  go_enter Try.func68, Try.ntmps68
  go_wp2_with fail
  go_loopg [3] s.size (fun gg i wr => ∃ k : Nat, k + gg = s.size ∧ i = .int .i64 k ∧ w = wr ∧ (s.data.toList.take k).all plb = true)
  case atStart => exact ⟨0, by omega, rfl, rfl, rfl⟩
  case round =>
    obtain ⟨k, hk, rfl, rfl, hall⟩ := hrel
    have HALL := Lib.hid hall
    have hMM := HM.out
    clear hall
    by_cases hlt : k < s.size
    · obtain ⟨c, hc, hat⟩ := byte_at s k hlt
      have bk : (0 : Int) ≤ (k : Int) ∧ (k : Int) < (s.size : Int) := by omega
      have hcl := c.toNat_lt
      have HNEXT : Hid (plb c = true → (s.data.toList.take (k + 1)).all plb = true) := fun h => all_takeT plb hc HALL.out h
      have HSTOP : Hid (plb c = false → plain s.data.toList = false) := fun h => all_noT plb hc h
      have HTK : Hid (plb c = !((decide (c.toNat ≠ 9) && decide (c.toNat < 32)) || decide (c.toNat = 127))) := Lib.hid rfl
      clear hc
      rcases (show c.toNat = 9 ∨ (c.toNat ≠ 9 ∧ c.toNat < 32) ∨ c.toNat = 127 ∨ (32 ≤ c.toNat ∧ c.toNat ≠ 127) by omega) with hr | hr | hr | hr
      · have q1 : ((c.toNat : Int) != 9) = false := by simp; omega
        have q2 : ((c.toNat : Int) == 9) = true := by simp; omega
        have q3 : decide ((c.toNat : Int) < 32) = true := by simp; omega
        have q4 : ((c.toNat : Int) == 127) = false := by simp; omega
        have q5 : c.toNat < 32 := by omega
        have HK : Hid (plb c = true) := by show _ = _; rw [HTK.out, decide_eq_false (by omega), decide_eq_true (by omega), decide_eq_false (by omega)]; rfl
        clear hr
        go_wp2_with fail
        go_roundg (gk - 1)
        case rel => exact ⟨k + 1, by omega, by go_num, rfl, HNEXT.out HK.out⟩
        case measure => omega
      · have q1 : ((c.toNat : Int) != 9) = true := by simp; omega
        have q2 : ((c.toNat : Int) == 9) = false := by simp; omega
        have q3 : decide ((c.toNat : Int) < 32) = true := by simp; omega
        have q4 : ((c.toNat : Int) == 127) = false := by simp; omega
        have q5 : c.toNat < 32 := by omega
        have HK : Hid (plb c = false) := by show _ = _; rw [HTK.out, decide_eq_true (by omega), decide_eq_true (by omega), decide_eq_false (by omega)]; rfl
        clear hr
        obtain rfl : false = b := by rw [← HB.out]; exact (HSTOP.out HK.out).symm
        go_wp2_with fail
        go_ret
        exact ⟨rfl, Below.refl _ _⟩
      · have q1 : ((c.toNat : Int) != 9) = true := by simp; omega
        have q2 : ((c.toNat : Int) == 9) = false := by simp; omega
        have q3 : decide ((c.toNat : Int) < 32) = false := by simp; omega
        have q4 : ((c.toNat : Int) == 127) = true := by simp; omega
        have q5 : ¬ c.toNat < 32 := by omega
        have HK : Hid (plb c = false) := by show _ = _; rw [HTK.out, decide_eq_true (by omega), decide_eq_false (by omega), decide_eq_true (by omega)]; rfl
        clear hr
        obtain rfl : false = b := by rw [← HB.out]; exact (HSTOP.out HK.out).symm
        go_wp2_with fail
        go_ret
        exact ⟨rfl, Below.refl _ _⟩
      · have q1 : ((c.toNat : Int) != 9) = true := by simp; omega
        have q2 : ((c.toNat : Int) == 9) = false := by simp; omega
        have q3 : decide ((c.toNat : Int) < 32) = false := by simp; omega
        have q4 : ((c.toNat : Int) == 127) = false := by simp; omega
        have q5 : ¬ c.toNat < 32 := by omega
        have HK : Hid (plb c = true) := by show _ = _; rw [HTK.out, decide_eq_true (by omega), decide_eq_false (by omega), decide_eq_false (by omega)]; rfl
        clear hr
        go_wp2_with fail
        go_roundg (gk - 1)
        case rel => exact ⟨k + 1, by omega, by go_num, rfl, HNEXT.out HK.out⟩
        case measure => omega
    · obtain rfl : s.size = k := by omega
      have hall : s.data.toList.all plb = true := by
        have := HALL.out
        rwa [List.take_of_length_le (by rw [ba_len7]; exact Nat.le_refl _)] at this
      obtain rfl : true = b := by rw [← HB.out]; exact hall.symm
      clear hall
      go_wp2_with fail
      go_ret
      exact ⟨rfl, Below.refl _ _⟩
end Hx
end Go.Proofs.Ytfdhogaknlabkaa
namespace Go.Proofs.Ytfdhogaknlabkaa
open Go.RowKit
namespace Hx
open Go
set_option linter.unusedVariables false
def encS (s : ByteArray) : Value := .string s
theorem encS_one (s : ByteArray) : (encS s).oneCell' = true := rfl
theorem infoS : (Try.prog.info? 9).map (fun i => (i.zero, i.size, i.bytes)) = some (some (.string ByteArray.empty), 1, 16) := by kernel_rfl
theorem own_any {α : Type} {enc : α → Value} {w : World} {base : Nat} {e : TypeId} {v : Value} {n : Nat} {l : List α} (h : w.ownsRow base e 1 v n (l.map enc)) : ∃ A c, v = .slice A n c ∧ (A = none → c = 0) ∧ RdG enc w w.heap.size A l ∧ l.length = n := by
  obtain ⟨A, c, rfl⟩ := own_form h
  refine ⟨A, c, rfl, ?_, RdG.of_own h⟩
  intro hA
  subst hA
  rcases h.2 with ⟨e, _⟩ | ⟨g, cap, cur, e, _⟩
  · injection e with _ _ h3
  · injection e with h3 _ _
    cases h3
theorem drewN_below {B : Nat} {a w : World} (h : Below B a w) (n : Nat) : Below B a (w.drewN n) := h.trans ⟨rfl, rfl, rfl, Nat.le_refl _, fun _ _ => rfl⟩
theorem seq_bS (a b : ByteArray) : (a.toList == b.toList) = decide (a = b) := by
  rw [Bool.eq_iff_iff, beq_iff_eq, decide_eq_true_eq, ByteArray.toList_eq, ByteArray.toList_eq]
  exact ⟨fun h => by cases a; cases b; simpa using h, fun h => by rw [h]⟩
set_option maxHeartbeats 2000000 in
set_option maxRecDepth 100000 in
/-- ref04.Same of two slices of texts. -/
theorem rsameS (A B : Option Addr) (n m c d : Nat) (la lb : List ByteArray) (b : Bool) (w : World) (ha : RdG encS w w.heap.size A la) (hb : RdG encS w w.heap.size B lb) (hn : la.length = n) (hm : lb.length = m) (hz : n ≤ 1000000 ∧ m ≤ 1000000) (h : decide (la = lb) = b) :
    Calls Try.prog 29 #[.slice A n c, .slice B m d] w fun e w' => e = .returned (.bool b) ∧ Below w.heap.size w w' := by
  by_cases hnm : n = m
  · subst hnm
    have d0 : ((n : Int) != (n : Int)) = false := by simp
    have HA := Lib.hid ha
    have HB := Lib.hid hb
    have HN := Lib.hid hn
    have HM := Lib.hid hm
    have HZ := Lib.hid hz
    have HD := Lib.hid h
    clear ha hb hn hm hz h
    go_enter Try.func29, Try.ntmps29
    go_wp2_with fail
    go_loopg [5] n (fun gg i wr => ∃ k : Nat, k + gg = n ∧ i = .int .i64 k ∧ Below w.heap.size w wr ∧ la.take k = lb.take k)
    case atStart => exact ⟨0, by omega, rfl, Below.refl _ _, rfl⟩
    case round =>
      obtain ⟨k, hk, rfl, hbw, htk⟩ := hrel
      have HTK := Lib.hid htk
      clear htk
      by_cases hlt : k < n
      · obtain ⟨ga, oa, rfl, hga, hca⟩ := HA.out (by rw [HN.out]; omega)
        obtain ⟨gb, ob, rfl, hgb, hcb⟩ := HB.out (by rw [HM.out]; omega)
        have hka : k < la.length := by rw [HN.out]; exact hlt
        have hkb : k < lb.length := by rw [HM.out]; exact hlt
        have k1 := (hbw.cell (p := ⟨ga, oa + k, none⟩) hga).trans (hca k hka)
        have k2 := (hbw.cell (p := ⟨gb, ob + k, none⟩) hgb).trans (hcb k hkb)
        obtain ⟨x, hx⟩ : ∃ x, la[k]'hka = x := ⟨_, rfl⟩
        obtain ⟨y, hy⟩ : ∃ y, lb[k]'hkb = y := ⟨_, rfl⟩
        rw [hx] at k1
        rw [hy] at k2
        have k1' : wr.cell? ⟨ga, oa + k, none⟩ = some (.string x) := k1
        have k2' : wr.cell? ⟨gb, ob + k, none⟩ = some (.string y) := k2
        have bk : (0 : Int) ≤ (k : Int) ∧ (k : Int) < (n : Int) := by omega
        have HBW := Lib.hid hbw
        have hMM := HZ.out
        have HTA : Hid (la.take (k + 1) = la.take k ++ [x]) := by show _ = _; rw [List.take_succ_eq_append_getElem hka, hx]
        have HTB : Hid (lb.take (k + 1) = lb.take k ++ [y]) := by show _ = _; rw [List.take_succ_eq_append_getElem hkb, hy]
        clear hca hcb hx hy k1 k2 hbw hka hkb
        by_cases hxy : x = y
        · subst hxy
          have q1 : (x.toList == x.toList) = true := by simp
          have q2 : (x.toList != x.toList) = false := by simp
          go_wp2_with fail
          go_quiet (fail)
          go_wp2_with fail
          go_roundg (gk - 1)
          case rel => exact ⟨k + 1, by omega, by go_num, drewN_below HBW.out _, by rw [HTA.out, HTB.out, HTK.out]⟩
          case measure => omega
        · have q1 : (x.toList == y.toList) = false := by rw [seq_bS]; simpa using hxy
          have q2 : (x.toList != y.toList) = true := by rw [bne, q1]; rfl
          obtain rfl : false = b := by
            rw [← HD.out, eq_comm, decide_eq_false_iff_not]
            rintro rfl
            have h1 := HTA.out
            rw [HTB.out] at h1
            have := List.append_cancel_left h1
            simp at this
            exact hxy this.symm
          clear hxy
          go_wp2_with fail
          go_quiet (fail)
          go_wp2_with fail
          go_ret
          exact ⟨rfl, drewN_below HBW.out _⟩
      · obtain rfl : n = k := by omega
        obtain rfl : true = b := by
          rw [← HD.out, eq_comm, decide_eq_true_eq]
          have := HTK.out
          rwa [List.take_of_length_le (by rw [HN.out]; exact Nat.le_refl _), List.take_of_length_le (by rw [HM.out]; exact Nat.le_refl _)] at this
        go_wp2_with fail
        go_ret
        exact ⟨rfl, hbw⟩
  · have d0 : ((n : Int) != (m : Int)) = true := by simp; omega
    have d1 : (n != m) = true := by simpa using hnm
    have d2 : (n == m) = false := by simpa using hnm
    obtain rfl : false = b := by
      rw [← h, eq_comm, decide_eq_false_iff_not]
      rintro rfl
      exact hnm (hn.symm.trans hm)
    clear ha hb hn hm h hz
    go_enter Try.func29, Try.ntmps29
    go_wp2_with fail
    go_ret
    exact ⟨rfl, Below.refl _ _⟩
end Hx
end Go.Proofs.Ytfdhogaknlabkaa
namespace Go.Proofs.Ytfdhogaknlabkaa
open Go.RowKit
namespace Hx
open As
set_option linter.unusedVariables false
/-- A list of bytes as a text. -/
def mkB (l : List UInt8) : ByteArray := ⟨l.toArray⟩
theorem mkB_list (l : List UInt8) : (mkB l).data.toList = l := rfl
theorem mkB_size (l : List UInt8) : (mkB l).size = l.length := rfl
theorem extract_mid (s : ByteArray) (a b : Nat) : s.extract a b = mkB ((s.data.toList.drop a).take (b - a)) := by
  have := ByteArray.extract_mk s.data.toList a b
  rw [← ba_eq7] at this
  exact this
theorem cutF_len (l : List UInt8) : ∀ cur, (cutF cur l).length ≤ l.length + 1 := by
  induction l with
  | nil => intro cur; simp [cutF]
  | cons c l ih =>
    intro cur
    rw [cutF]
    split
    · have := ih []
      simp only [List.length_cons]
      omega
    · have := ih (cur ++ [c])
      simp only [List.length_cons]
      omega
theorem cutF_mem (l : List UInt8) : ∀ cur, ∀ p ∈ cutF cur l, p.length ≤ cur.length + l.length := by
  induction l with
  | nil => intro cur p hp; simp [cutF] at hp; subst hp; simp
  | cons c l ih =>
    intro cur p hp
    rw [cutF] at hp
    split at hp
    · rcases List.mem_cons.1 hp with rfl | hp
      · omega
      · have := ih [] p hp
        simp only [List.length_nil, List.length_cons] at *
        omega
    · have := ih (cur ++ [c]) p hp
      simp only [List.length_append, List.length_cons, List.length_nil] at *
      omega
theorem cut_mem (l p : List UInt8) (hp : p ∈ cut l) : p.length ≤ l.length := by
  have := cutF_mem l [] p hp
  simpa using this
theorem cutF_step {l : List UInt8} {k : Nat} {c : UInt8} (h : l[k]? = some c) (cur : List UInt8) : cutF cur (l.drop k) = if c.toNat = 44 then cur :: cutF [] (l.drop (k + 1)) else cutF (cur ++ [c]) (l.drop (k + 1)) := by
  obtain ⟨hk, e⟩ := List.getElem?_eq_some_iff.1 h
  rw [List.drop_eq_getElem_cons hk, e]
  rfl
theorem mid_snoc {l : List UInt8} {k a : Nat} {c : UInt8} (h : l[k]? = some c) (ha : a ≤ k) : (l.drop a).take (k + 1 - a) = (l.drop a).take (k - a) ++ [c] := by
  have e : (l.drop a)[k - a]? = some c := by rw [List.getElem?_drop, show a + (k - a) = k by omega]; exact h
  rw [show k + 1 - a = (k - a) + 1 by omega]
  exact take_next e
set_option maxHeartbeats 4000000 in
set_option maxRecDepth 100000 in
/-- ref.Cut, by commas. -/
theorem rcut7 (s : ByteArray) (w : World) (hm : s.size ≤ 1000000) :
    Calls Try.prog 70 #[.string s, .int .u8 44] w fun e w' => Below w.heap.size w w' ∧ ∃ A c, e = .returned (.slice A (cut s.data.toList).length c) ∧ (A = none → c = 0) ∧ RdG encS w' w'.heap.size A ((cut s.data.toList).map mkB) := by
  obtain ⟨i0, hi, hz0, hz1, hz2⟩ := info_parts infoS
  have HI := Lib.hid hi
  have HZ0 := Lib.hid hz0
  have HZ1 := Lib.hid hz1
  have HZ2 := Lib.hid hz2
  have HM := Lib.hid hm
  clear hi hz0 hz1 hz2 hm
  go_enter Try.func70, Try.ntmps70
  go_wp2_with fail
  go_loopg [5, 6, 7] s.size (fun gg v f i wr => ∃ (k a : Nat) (done : List (List UInt8)), k + gg = s.size ∧ a ≤ k ∧ f = .int .i64 a ∧ i = .int .i64 k ∧ wr.ownsRow w.heap.size 9 1 v done.length ((done.map mkB).map encS) ∧ Below w.heap.size w wr ∧ cut s.data.toList = done ++ cutF ((s.data.toList.drop a).take (k - a)) (s.data.toList.drop k) ∧ done.length ≤ k)
  case atStart => exact ⟨0, 0, [], by omega, Nat.le_refl _, rfl, rfl, World.ownsRow_nil _ _ _ _, Below.refl _ _, by simp [cut], Nat.le_refl _⟩
  case round =>
    obtain ⟨k, a, done, hk, ha, rfl, rfl, hown, hbw, hcut, hdl⟩ := hrel
    have HO := Lib.hid hown
    have HBW := Lib.hid hbw
    have HC := Lib.hid hcut
    have hsz := hbw.size
    have hMM := HM.out
    by_cases hlt : k < s.size
    · obtain ⟨c, hc, hat⟩ := byte_at s k hlt
      have bk : (0 : Int) ≤ (k : Int) ∧ (k : Int) < (s.size : Int) := by omega
      have ba : (0 : Int) ≤ (a : Int) ∧ (a : Int) ≤ (k : Int) := by omega
      have bs : (k : Int) ≤ (s.size : Int) := by omega
      have hst := cutF_step hc ((s.data.toList.drop a).take (k - a))
      by_cases h44 : c.toNat = 44
      · have d1 : ((c.toNat : Int) == 44) = true := by simp; omega
        have d2 : (c.toNat == 44) = true := by simpa using h44
        rw [if_pos h44] at hst
        obtain ⟨x, hx⟩ : ∃ x, s.extract a k = x := ⟨_, rfl⟩
        have hxm : x = mkB ((s.data.toList.drop a).take (k - a)) := by rw [← hx]; exact extract_mid s a k
        have HN : Hid (cut s.data.toList = (done ++ [(s.data.toList.drop a).take (k - a)]) ++ cutF ((s.data.toList.drop (k + 1)).take (k + 1 - (k + 1))) (s.data.toList.drop (k + 1))) := by
          show _ = _
          rw [HC.out, hst]
          simp
        have HX := Lib.hid hxm
        clear hown hbw hcut hc hst hxm h44
        go_wp2_with (first
          | (at_builtin; refine wpList_append_rdg encS_one rfl (.tmp 19) (.tmp 24) 55 rfl w.heap.size 9 i0 (.string ByteArray.empty) 16 Try.underlying55 HI.out HZ0.out HZ1.out HZ2.out (by decide) rfl _ done.length _ rfl (HO.out.alloc (.cells #[.string x] 9)) (wr.heap.size + 1) (some ⟨wr.heap.size, 0, none⟩) 1 1 [x] rfl (RdG.new (enc := encS) wr 9 [x]) rfl (fun h => by cases h) (by omega) (by rw [World.size_alloc]; omega) ?_; intro v4 w4 hown4 hgr4; have HO4 := Lib.hid hown4; have HG4 := Lib.hid hgr4; clear hown4 hgr4)
          | fail)
        have hb4 : Below w.heap.size w w4 := (HBW.out.alloc hsz _).grown HG4.out (by rw [World.size_alloc]; omega) (fun g hg => (HO.out.lt g hg).1)
        go_roundg (gk - 1)
        case rel =>
          refine ⟨k + 1, k + 1, done ++ [(s.data.toList.drop a).take (k - a)], by omega, Nat.le_refl _, by go_num, by go_num, ?_, hb4, HN.out, by simp; omega⟩
          rw [List.length_append, List.map_append, List.map_append]
          have := HO4.out
          rw [HX.out] at this
          exact this
        case measure => omega
      · have d1 : ((c.toNat : Int) == 44) = false := by simp; omega
        have d2 : (c.toNat == 44) = false := by simpa using h44
        rw [if_neg h44, ← mid_snoc hc ha] at hst
        have HN : Hid (cut s.data.toList = done ++ cutF ((s.data.toList.drop a).take (k + 1 - a)) (s.data.toList.drop (k + 1))) := by
          show _ = _
          rw [HC.out, hst]
        clear hown hbw hcut hc hst h44
        go_wp2_with fail
        go_roundg (gk - 1)
        case rel => exact ⟨k + 1, a, done, by omega, by omega, rfl, by go_num, HO.out, HBW.out, HN.out, by omega⟩
        case measure => omega
    · obtain rfl : s.size = k := by omega
      have ba : (0 : Int) ≤ (a : Int) ∧ (a : Int) ≤ (s.size : Int) := by omega
      have ba2 : a ≤ s.size := ha
      obtain ⟨x, hx⟩ : ∃ x, s.extract a s.size = x := ⟨_, rfl⟩
      have hxm : x = mkB ((s.data.toList.drop a).take (s.size - a)) := by rw [← hx]; exact extract_mid s a s.size
      have HF : Hid (cut s.data.toList = done ++ [(s.data.toList.drop a).take (s.size - a)]) := by
        show _ = _
        have hd : s.data.toList.drop s.size = [] := List.drop_of_length_le (by rw [ba_len7]; exact Nat.le_refl _)
        rw [HC.out, hd]
        rfl
      have HX := Lib.hid hxm
      clear hown hbw hcut hxm
      go_wp2_with (first
        | (at_builtin; refine wpList_append_rdg encS_one rfl (.tmp 28) (.tmp 32) 55 rfl w.heap.size 9 i0 (.string ByteArray.empty) 16 Try.underlying55 HI.out HZ0.out HZ1.out HZ2.out (by decide) rfl _ done.length _ rfl (HO.out.alloc (.cells #[.string x] 9)) (wr.heap.size + 1) (some ⟨wr.heap.size, 0, none⟩) 1 1 [x] rfl (RdG.new (enc := encS) wr 9 [x]) rfl (fun h => by cases h) (by omega) (by rw [World.size_alloc]; omega) ?_; intro v4 w4 hown4 hgr4; rw [← List.map_append] at hown4; obtain ⟨A4, k4, rfl, hz4, hr4, hl4⟩ := own_any hown4; have HR4 := Lib.hid hr4; have HZ4 := Lib.hid hz4; have HG4 := Lib.hid hgr4; clear hown4 hgr4 hr4 hz4 hl4)
        | fail)
      have hb4 : Below w.heap.size w w4 := (HBW.out.alloc hsz _).grown HG4.out (by rw [World.size_alloc]; omega) (fun g hg => (HO.out.lt g hg).1)
      go_ret
      refine ⟨hb4, A4, k4, ?_, HZ4.out, ?_⟩
      · rw [HF.out, List.length_append]; rfl
      · rw [HF.out, List.map_append]
        have := HR4.out
        rw [HX.out] at this
        exact this
/-- A list's parts, or none beside an error. -/
def listS (s : ByteArray) : List ByteArray := if listE s.data.toList = 0 then (parts s.data.toList).map mkB else []
/-- What List answers. -/
def ListTo (l : List ByteArray) (n : Nat) (q : Int) (w : World) (e : Ending) (w' : World) : Prop := Below w.heap.size w w' ∧ ∃ A c, e = .returned (.tuple #[.slice A n c, .int .i64 q]) ∧ (A = none → c = 0) ∧ RdG encS w' w'.heap.size A l
theorem part_some {p : List UInt8} (h : trim p ≠ []) : aPart p = some (lows (trim p)) := by unfold aPart; rw [if_neg h]
theorem part_none {p : List UInt8} (h : trim p = []) : aPart p = none := by unfold aPart; rw [if_pos h]
theorem take_part {ps : List (List UInt8)} {k : Nat} {p : List UInt8} (h : ps[k]? = some p) : (ps.take (k + 1)).filterMap aPart = (ps.take k).filterMap aPart ++ (aPart p).toList := by
  obtain ⟨hk, e⟩ := List.getElem?_eq_some_iff.1 h
  rw [List.take_succ_eq_append_getElem hk, e, List.filterMap_append]
  cases hp : aPart p <;> simp [hp]
theorem filt_len (ps : List (List UInt8)) (k : Nat) : ((ps.take k).filterMap aPart).length ≤ k := by
  have h1 := List.length_filterMap_le aPart (ps.take k)
  rw [List.length_take] at h1
  omega
theorem listS_map (s : ByteArray) (h : listE s.data.toList = 0) : listS s = (parts s.data.toList).map mkB := by unfold listS; rw [if_pos h]
theorem listS_nil (s : ByteArray) (h : listE s.data.toList ≠ 0) : listS s = [] := by unfold listS; rw [if_neg h]
set_option maxHeartbeats 4000000 in
set_option maxRecDepth 100000 in
/-- ref.List. -/
theorem rlist7 (s : ByteArray) (l : List ByteArray) (n : Nat) (q : Int) (w : World) (hm : s.size ≤ 1000000) (hl : listS s = l) (hn : l.length = n) (hq : (listE s.data.toList : Int) = q) :
    Calls Try.prog 46 #[.string s] w (ListTo l n q w) := by
  obtain ⟨i0, hi, hz0, hz1, hz2⟩ := info_parts infoS
  obtain ⟨ps, hps⟩ : ∃ ps, cut s.data.toList = ps := ⟨_, rfl⟩
  obtain ⟨np, hnp⟩ : ∃ np, ps.length = np := ⟨_, rfl⟩
  have hple : np ≤ 1000001 := by
    have := cutF_len s.data.toList []
    rw [ba_len7] at this
    rw [← hnp, ← hps]
    show (cutF [] s.data.toList).length ≤ _
    omega
  have hpz : ∀ p ∈ ps, p.length ≤ 1000000 := by
    intro p hp
    rw [← hps] at hp
    exact Nat.le_trans (cut_mem _ p hp) (by rw [ba_len7]; exact hm)
  have hparts : parts s.data.toList = ps.filterMap aPart := by unfold parts; rw [hps]
  have HCUT : Hid (∀ W : World, Calls Try.prog 70 #[.string s, .int .u8 44] W fun e w' => Below W.heap.size W w' ∧ ∃ A c, e = .returned (.slice A np c) ∧ RdG encS w' w'.heap.size A (ps.map mkB)) := by
    intro W
    have := rcut7 s W hm
    rw [hps, hnp] at this
    exact this.mono fun e w' ⟨h1, A, c, h2, _, h3⟩ => ⟨h1, A, c, h2, h3⟩
  have HI := Lib.hid hi
  have HZ0 := Lib.hid hz0
  have HZ1 := Lib.hid hz1
  have HZ2 := Lib.hid hz2
  have HNP := Lib.hid hnp
  have HPZ := Lib.hid hpz
  have HPA := Lib.hid hparts
  have HL := Lib.hid hl
  have HN := Lib.hid hn
  have HQ := Lib.hid hq
  clear hi hz0 hz1 hz2 hm hnp hpz hps hparts hl hn hq
  go_enter Try.func46, Try.ntmps46
  go_wp2_with (first
    | (go_at_call 70; (with_reducible refine (HCUT.out w).mono ?_); rintro e w1 ⟨hb1, A1, c1, rfl, hr1⟩; have HB1 := Lib.hid hb1; have HR1 := Lib.hid hr1; clear hr1)
    | fail)
  go_loopg [4, 6] np (fun gg v i wr => ∃ (k : Nat), k + gg = np ∧ i = .int .i64 k ∧ wr.ownsRow w1.heap.size 9 1 v ((ps.take k).filterMap aPart).length ((((ps.take k).filterMap aPart).map mkB).map encS) ∧ Below w1.heap.size w1 wr)
  case atStart => exact ⟨0, by omega, rfl, World.ownsRow_nil _ _ _ _, Below.refl _ _⟩
  case round =>
    obtain ⟨k, hk, rfl, hown, hb1w⟩ := hrel
    obtain ⟨m, hmm⟩ : ∃ m, ((ps.take k).filterMap aPart).length = m := ⟨_, rfl⟩
    have hmk : m ≤ k := by rw [← hmm]; exact filt_len ps k
    rw [hmm] at hown
    have HMM := Lib.hid hmm
    have HO := Lib.hid hown
    have HB1W := Lib.hid hb1w
    have hsz := hb1w.size
    clear hmm hb1
    by_cases hlt : k < np
    · have hkp : k < ps.length := by rw [HNP.out]; exact hlt
      obtain ⟨g, o, rfl, hg, hc⟩ := HR1.out (by rw [List.length_map]; omega)
      have hkm : k < (ps.map mkB).length := by rw [List.length_map]; exact hkp
      have hcell0 := (hb1w.cell (p := ⟨g, o + k, none⟩) hg).trans (hc k hkm)
      obtain ⟨p, hp⟩ : ∃ p, ps[k]'hkp = p := ⟨_, rfl⟩
      rw [List.getElem_map, hp] at hcell0
      have hpk : ps[k]? = some p := by rw [List.getElem?_eq_getElem hkp, hp]
      have hcell : wr.cell? ⟨g, o + k, none⟩ = some (.string (mkB p)) := hcell0
      obtain ⟨pb, hpb⟩ : ∃ pb, mkB p = pb := ⟨_, rfl⟩
      rw [hpb] at hcell
      have HPB : Hid (pb.size ≤ 1000000) := by
        show _ ≤ _
        rw [← hpb, mkB_size]
        exact HPZ.out p (List.mem_of_getElem? hpk)
      obtain ⟨t, ht⟩ : ∃ t, trimS pb = t := ⟨_, rfl⟩
      have htl : t.data.toList = trim p := by rw [← ht, ← hpb]; rfl
      have bk : (0 : Int) ≤ (k : Int) ∧ (k : Int) < (np : Int) := by omega
      have hnx := take_part hpk
      have HT := Lib.hid ht
      have HTS : Hid (t.size ≤ 1000000) := by
        show _ ≤ _
        rw [← ba_len7, htl]
        refine Nat.le_trans (trim_len p) ?_
        have := HPB.out
        rwa [← hpb, mkB_size] at this
      by_cases h0 : t.size = 0
      · have e1 : (t.toList == (⟨#[]⟩ : ByteArray).toList) = true := by rw [empty_b]; simpa using h0
        have e2 : (t.toList == []) = true := by rw [empty_b2]; simpa using h0
        have e3 : (t.toList != []) = false := by rw [bne, e2]; rfl
        have htn : trim p = [] := by
          rw [← htl]
          exact List.eq_nil_of_length_eq_zero (by rw [ba_len7]; exact h0)
        rw [part_none htn] at hnx
        have HNX : Hid ((ps.take (k + 1)).filterMap aPart = (ps.take k).filterMap aPart) := by show _ = _; rw [hnx]; simp
        clear hown hb1w hc hcell0 hp hpk hpb htl hnx htn ht h0 hkm hkp
        go_wp2_with (first
          | (go_at_call 69; (with_reducible refine (rtrim7 pb t wr HPB.out HT.out).mono ?_); rintro e w2 ⟨rfl, hb2⟩; have HB2 := Lib.hid hb2)
          | fail)
        go_roundg (gk - 1)
        case rel =>
          refine ⟨k + 1, by omega, by go_num, ?_, stp HB1W.out HB2.out⟩
          rw [HNX.out, HMM.out]
          exact own_below HO.out HB2.out (Nat.le_refl _)
        case measure => omega
      · have e1 : (t.toList == (⟨#[]⟩ : ByteArray).toList) = false := by rw [empty_b]; simpa using h0
        have e2 : (t.toList == []) = false := by rw [empty_b2]; simpa using h0
        have e3 : (t.toList != []) = true := by rw [bne, e2]; rfl
        have htn : trim p ≠ [] := by
          rw [← htl]
          intro h
          rw [← ba_len7, h] at h0
          exact h0 rfl
        rw [part_some htn] at hnx
        obtain ⟨x, hx⟩ : ∃ x, lowS t = x := ⟨_, rfl⟩
        have hxm : x = mkB (lows (trim p)) := by rw [← hx, lowS, htl]; rfl
        have HNX : Hid ((((ps.take (k + 1)).filterMap aPart).map mkB).map encS = (((ps.take k).filterMap aPart).map mkB).map encS ++ [x].map encS) := by
          show _ = _
          rw [hnx, hxm]
          simp
        have HNL : Hid (((ps.take (k + 1)).filterMap aPart).length = m + 1) := by
          show _ = _
          rw [hnx, List.length_append, HMM.out]
          rfl
        have HXL := Lib.hid hx
        clear hown hb1w hc hcell0 hp hpk hpb htl hnx htn ht h0 hkm hkp hx hxm
        go_wp2_with (first
          | (go_at_call 69; (with_reducible refine (rtrim7 pb t wr HPB.out HT.out).mono ?_); rintro e w2 ⟨rfl, hb2⟩; have HB2 := Lib.hid hb2; clear hb2)
          | (go_at_call 50; (with_reducible refine (rlower7 t x w2 HTS.out HXL.out).mono ?_); rintro e w3 ⟨rfl, hb3⟩; have HB3 := Lib.hid (stp HB2.out hb3); have hs3 := (stp HB1W.out HB3.out).size; have HO3 := Lib.hid (own_below HO.out HB3.out (Nat.le_refl _)); clear hb3)
          | (at_builtin; refine wpList_append_rdg encS_one rfl (.tmp 24) (.tmp 27) 55 rfl w1.heap.size 9 i0 (.string ByteArray.empty) 16 Try.underlying55 HI.out HZ0.out HZ1.out HZ2.out (by decide) rfl _ m _ rfl (HO3.out.alloc (.cells #[.string x] 9)) (w3.heap.size + 1) (some ⟨w3.heap.size, 0, none⟩) 1 1 [x] rfl (RdG.new (enc := encS) w3 9 [x]) rfl (fun h => by cases h) (by omega) (by rw [World.size_alloc]; omega) ?_; intro v4 w4 hown4 hgr4; have HO4 := Lib.hid hown4; have HG4 := Lib.hid hgr4; clear hown4 hgr4)
          | fail)
        have hb4 : Below w1.heap.size w1 w4 := ((stp HB1W.out HB3.out).alloc hs3 _).grown HG4.out (by rw [World.size_alloc]; omega) (fun g hg => (HO3.out.lt g hg).1)
        go_roundg (gk - 1)
        case rel =>
          refine ⟨k + 1, by omega, by go_num, ?_, hb4⟩
          rw [HNX.out, HNL.out]
          exact HO4.out
        case measure => omega
    · obtain rfl : np = k := by omega
      have htk : ps.take np = ps := List.take_of_length_le (by rw [HNP.out]; exact Nat.le_refl _)
      rw [htk] at HMM HO
      rw [← HPA.out] at HMM HO
      obtain ⟨A2, c2, rfl, hz2, hr2, hl2⟩ := own_any HO.out
      have HR2 := Lib.hid hr2
      have HZA := Lib.hid hz2
      have HBE := Lib.hid (stp HB1.out HB1W.out)
      have hML : m ≤ 1000001 := by omega
      by_cases h16 : 16 < m
      · have d0 : decide ((16 : Int) < (m : Int)) = true := by simp; omega
        have hE : listE s.data.toList = 4 := by unfold listE; rw [HMM.out, if_pos h16]
        obtain rfl : (4 : Int) = q := by rw [← HQ.out, hE]; rfl
        obtain rfl : [] = l := by rw [← HL.out, listS_nil s (by rw [hE]; decide)]
        obtain rfl : 0 = n := HN.out
        clear hown hb1w htk hz2 hr2 hl2 hE
        go_wp2_with fail
        go_ret2
        exact ⟨HBE.out, none, 0, rfl, fun _ => rfl, RdG.nil _ _ _⟩
      · have d0 : decide ((16 : Int) < (m : Int)) = false := by simp; omega
        have HE : Hid (listE s.data.toList = if (parts s.data.toList).all isTok then 0 else 8) := by show _ = _; unfold listE; rw [HMM.out, if_neg h16]
        obtain ⟨ts, hts⟩ : ∃ ts, parts s.data.toList = ts := ⟨_, rfl⟩
        have HTZ : Hid (∀ x ∈ ts, x.length ≤ 1000000) := by
          intro x hx
          rw [← hts, HPA.out, List.mem_filterMap] at hx
          obtain ⟨p, hp, hpx⟩ := hx
          unfold aPart at hpx
          split at hpx
          · cases hpx
          · cases hpx
            rw [lows_length]
            exact Nat.le_trans (trim_len p) (HPZ.out p hp)
        rw [hts] at HMM HE HR2
        have HTS := Lib.hid hts
        clear hown hb1w htk hz2 hr2 hl2 hts
        go_wp2_with fail
        obtain ⟨wo, rfl⟩ : ∃ wo : World, wo = wr := ⟨_, rfl⟩
        go_loopg [8] m (fun gg i wr2 => ∃ k : Nat, k + gg = m ∧ i = .int .i64 k ∧ Below wo.heap.size wo wr2 ∧ (ts.take k).all isTok = true)
        case atStart => exact ⟨0, by omega, rfl, Below.refl _ _, rfl⟩
        case round =>
          obtain ⟨k, hk2, rfl, hbw2, hall⟩ := hrel
          have HALL := Lib.hid hall
          have HBW2 := Lib.hid hbw2
          clear hall
          by_cases hlt2 : k < m
          · have hkt : k < ts.length := by rw [HMM.out]; exact hlt2
            obtain ⟨g, o, rfl, hg, hc⟩ := HR2.out (by rw [List.length_map]; omega)
            have hkm : k < (ts.map mkB).length := by rw [List.length_map]; exact hkt
            have hcell0 := (hbw2.cell (p := ⟨g, o + k, none⟩) hg).trans (hc k hkm)
            obtain ⟨x, hx⟩ : ∃ x, ts[k]'hkt = x := ⟨_, rfl⟩
            rw [List.getElem_map, hx] at hcell0
            have hxk : ts[k]? = some x := by rw [List.getElem?_eq_getElem hkt, hx]
            have hcell : wr.cell? ⟨g, o + k, none⟩ = some (.string (mkB x)) := hcell0
            obtain ⟨xb, hxb⟩ : ∃ xb, mkB x = xb := ⟨_, rfl⟩
            rw [hxb] at hcell
            have HXB : Hid (xb.size ≤ 1000000) := by
              show _ ≤ _
              rw [← hxb, mkB_size]
              exact HTZ.out x (List.mem_of_getElem? hxk)
            have bk : (0 : Int) ≤ (k : Int) ∧ (k : Int) < (m : Int) := by omega
            cases htx : isTok x
            · have HTX : Hid (isTok xb.data.toList = false) := by show _ = _; rw [← hxb]; exact htx
              have hE : listE s.data.toList = 8 := by
                rw [HE.out, if_neg]
                rw [Bool.not_eq_true, List.all_eq_false]
                exact ⟨x, List.mem_of_getElem? hxk, by simp [htx]⟩
              obtain rfl : (8 : Int) = q := by rw [← HQ.out, hE]; rfl
              obtain rfl : [] = l := by rw [← HL.out, listS_nil s (by rw [hE]; decide)]
              obtain rfl : 0 = n := HN.out
              clear hc hcell0 hx hxk hxb htx hE hkm hkt hbw2
              go_wp2_with (go_at_call 49; (with_reducible refine (rtoken7 xb false wr HXB.out HTX.out).mono ?_); rintro e w5 ⟨rfl, hb5⟩)
              go_ret2
              exact ⟨stp (stp HBE.out HBW2.out) hb5, none, 0, rfl, fun _ => rfl, RdG.nil _ _ _⟩
            · have HTX : Hid (isTok xb.data.toList = true) := by show _ = _; rw [← hxb]; exact htx
              have HALL2 : Hid ((ts.take (k + 1)).all isTok = true) := by
                show _ = _
                obtain ⟨hk3, e3⟩ := List.getElem?_eq_some_iff.1 hxk
                rw [List.take_succ_eq_append_getElem hk3, e3, List.all_append, HALL.out]
                simp [htx]
              clear hc hcell0 hx hxk hxb htx hkm hkt hbw2
              go_wp2_with (go_at_call 49; (with_reducible refine (rtoken7 xb true wr HXB.out HTX.out).mono ?_); rintro e w5 ⟨rfl, hb5⟩)
              go_roundg (gk - 1)
              case rel => exact ⟨k + 1, by omega, by go_num, stp HBW2.out hb5, HALL2.out⟩
              case measure => omega
          · obtain rfl : m = k := by omega
            have hE : listE s.data.toList = 0 := by
              have := HALL.out
              rw [List.take_of_length_le (by rw [HMM.out]; exact Nat.le_refl _)] at this
              rw [HE.out, if_pos this]
            obtain rfl : (0 : Int) = q := by rw [← HQ.out, hE]; rfl
            have hlm := listS_map s hE
            rw [HL.out, HTS.out] at hlm
            subst hlm
            obtain rfl : m = n := by rw [← HN.out, List.length_map, HMM.out]
            clear hE
            go_wp2_with fail
            go_ret2
            exact ⟨stp HBE.out HBW2.out, A2, c2, rfl, HZA.out, HR2.out.on HBW2.out⟩
end Hx
end Go.Proofs.Ytfdhogaknlabkaa
namespace Go.Proofs.Ytfdhogaknlabkaa
open Go.RowKit
namespace Hx
open As
set_option linter.unusedVariables false
theorem kcell {W : World} {B t : Nat} {fz : Nat × Nat} {O : Array Value} (h : W.heap[B]? = some (.cells O t fz)) (hO : (kd.map encK).toArray = O) (c : UInt8) : W.cell? ⟨B, c.toNat, none⟩ = some (.int .u8 ((kindOf c).toNat : Int)) := by
  have hc : c.toNat < kd.length := by rw [kd_length]; exact c.toNat_lt
  rw [cell_of_row W B c.toNat _ t fz h, ← hO]
  simp only [List.getElem?_toArray, List.getElem?_map, List.getElem?_eq_getElem hc, kd_get c hc]
  rfl
/-- The world behind the array's copy. -/
theorem opnK (w w1 : World) (O : Array Value) (hb1 : Below w.heap.size w w1) : ∃ W, (w1.alloc (.cells zero256 108)).setRow w1.heap.size O = W ∧ W.heap[w1.heap.size]? = some (.cells O 108 (0, 0)) ∧ Below w.heap.size w W ∧ w.heap.size ≤ w1.heap.size ∧ W.heap.size = w1.heap.size + 1 :=
  ⟨_, rfl, setRow_heap _ _ _ _ _ _ (heap_alloc_new w1 _), below_setRow7 (stpA hb1 _) hb1.size _, hb1.size, by simp [World.setRow]⟩
set_option maxHeartbeats 2000000 in
set_option maxRecDepth 100000 in
/-- all: whether the bytes of a text are of a kind, or of those behind it. -/
theorem all7 (s : ByteArray) (m : Int) (b : Bool) (w : World) (hm : s.size ≤ 1000000) (h : s.data.toList.all (fun c => !decide (((kindOf c).toNat : Int) < m)) = b) :
    Calls Try.prog 77 #[.string s, .int .u8 m] w fun e w' => e = .returned (.bool b) ∧ Below w.heap.size w w' := by
  have hz := zero_256
  obtain ⟨O, hO⟩ : ∃ O, (kd.map encK).toArray = O := ⟨_, rfl⟩
  have HO := Lib.hid hO
  have HOS : Hid (O.size = 256) := by show _ = _; rw [← hO]; simp [kd_length]
  have HOC : Hid (O.all (·.oneCell') = true) := by show _ = _; rw [← hO]; simp [encK_one]
  clear hO
  have HM := Lib.hid hm
  have HH := Lib.hid h
  clear hm h
  go_enter Try.func77, Try.ntmps77
  go_wp2_with (first
    | (go_at_call 75; (with_reducible refine (kinds7 O w HO.out).mono ?_); rintro e w1 ⟨rfl, hb1⟩; have HB1 := Lib.hid hb1; clear hb1)
    | (refine wpList_store_row rfl _ _ _ rfl w1.heap.size O rfl rfl 108 zero256 (heap_alloc_new w1 _) (by rw [size256, HOS.out]) (by rw [HOS.out]; rfl) HOC.out ?_)
    | fail)
  obtain ⟨W, hW, hrow, hbW, hle, _⟩ := opnK w w1 O HB1.out
  rw [hW]
  have HC : Hid (∀ c : UInt8, W.cell? ⟨w1.heap.size, c.toNat, none⟩ = some (.int .u8 ((kindOf c).toNat : Int))) := Lib.hid (fun c => kcell hrow HO.out c)
  have HBW := Lib.hid hbW
  clear hW hrow hbW
  go_loopg [6, 10] s.size (fun gg x i wr => ∃ k : Nat, k + gg = s.size ∧ i = .int .i64 k ∧ W = wr ∧ (s.data.toList.take k).all (fun c => !decide (((kindOf c).toNat : Int) < m)) = true)
  case atStart => exact ⟨0, by omega, rfl, rfl, rfl⟩
  case round =>
    obtain ⟨k, hk, rfl, rfl, hall⟩ := hrel
    have HALL := Lib.hid hall
    have hMM := HM.out
    clear hall
    by_cases hlt : k < s.size
    · obtain ⟨c, hc, hat⟩ := byte_at s k hlt
      have bk : (0 : Int) ≤ (k : Int) ∧ (k : Int) < (s.size : Int) := by omega
      have hcl := c.toNat_lt
      have b1 : (0 : Int) ≤ (c.toNat : Int) ∧ (c.toNat : Int) < 256 := by omega
      have c1 := HC.out c
      cases hd : decide (((kindOf c).toNat : Int) < m) with
      | true =>
        obtain rfl : false = b := by rw [← HH.out]; exact (all_noT _ hc (by rw [hd]; rfl)).symm
        clear hc
        go_wp2_with fail
        go_ret
        exact ⟨rfl, HBW.out⟩
      | false =>
        have HN : Hid ((s.data.toList.take (k + 1)).all (fun c => !decide (((kindOf c).toNat : Int) < m)) = true) := all_takeT _ hc HALL.out (by rw [hd]; rfl)
        clear hc
        go_wp2_with fail
        go_roundg (gk - 1)
        case rel => exact ⟨k + 1, by omega, by go_num, rfl, HN.out⟩
        case measure => omega
    · obtain rfl : s.size = k := by omega
      obtain rfl : true = b := by
        rw [← HH.out, ← HALL.out, List.take_of_length_le (by rw [ba_len7]; exact Nat.le_refl _)]
      go_wp2_with fail
      go_ret
      exact ⟨rfl, HBW.out⟩
theorem plain_all (l : List UInt8) : l.all (fun c => !decide (((kindOf c).toNat : Int) < 1)) = plain l := by
  unfold plain
  congr 1
  funext c
  have := kind_plain c
  rw [show decide (((kindOf c).toNat : Int) < 1) = decide ((kindOf c).toNat < 1) by rw [decide_eq_decide]; omega, this, Bool.not_not]
theorem tok_all7 (l : List UInt8) : l.all (fun c => !decide (((kindOf c).toNat : Int) < 3)) = l.all tokb := by
  congr 1
  funext c
  have := kind_tok c
  rw [show decide (((kindOf c).toNat : Int) < 3) = decide ((kindOf c).toNat < 3) by rw [decide_eq_decide]; omega, this, Bool.not_not]
set_option maxRecDepth 100000 in
theorem plain7 (s : ByteArray) (b : Bool) (w : World) (h0 : s.size ≤ 1000000) (h1 : plain s.data.toList = b) :
    Calls Try.prog 57 #[.string s] w fun e w' => e = .returned (.bool b) ∧ Below w.heap.size w w' := by
  have H0 := Lib.hid h0
  have H1 : Hid (s.data.toList.all (fun c => !decide (((kindOf c).toNat : Int) < 1)) = b) := (plain_all _).trans h1
  clear h0 h1
  go_enter Try.func57, Try.ntmps57
  go_wp2_with (go_at_call 77; (with_reducible refine (all7 s 1 b w H0.out H1.out).mono ?_); rintro e w1 ⟨rfl, hb1⟩)
  go_ret
  exact ⟨rfl, hb1⟩
set_option maxRecDepth 100000 in
theorem token7 (s : ByteArray) (b : Bool) (w : World) (h0 : s.size ≤ 1000000) (h1 : isTok s.data.toList = b) :
    Calls Try.prog 56 #[.string s] w fun e w' => e = .returned (.bool b) ∧ Below w.heap.size w w' := by
  have H0 := Lib.hid h0
  have hem := empty_b s
  have hem2 := empty_b2 s
  by_cases hs : s.size = 0
  · have e1 : decide (s.size = 0) = true := by simp [hs]
    rw [e1] at hem hem2
    obtain rfl : false = b := by
      have : s.data.toList = [] := List.eq_nil_of_length_eq_zero (by rw [ba_len7]; exact hs)
      rw [← h1, this]
      rfl
    clear h0 h1
    go_enter Try.func56, Try.ntmps56
    go_wp2_with fail
    go_ret
    exact ⟨rfl, Below.refl _ _⟩
  · have e1 : decide (s.size = 0) = false := by simp [hs]
    rw [e1] at hem hem2
    have H1 : Hid (s.data.toList.all (fun c => !decide (((kindOf c).toNat : Int) < 3)) = b) := by
      show _ = _
      rw [tok_all7, ← h1]
      unfold isTok
      have : s.data.toList.isEmpty = false := by
        rw [List.isEmpty_eq_false_iff]
        intro h
        have := ba_len7 s
        rw [h] at this
        exact hs this.symm
      rw [this]
      simp
    clear h0 h1
    go_enter Try.func56, Try.ntmps56
    go_wp2_with (go_at_call 77; (with_reducible refine (all7 s 3 b w H0.out H1.out).mono ?_); rintro e w1 ⟨rfl, hb1⟩)
    go_ret
    exact ⟨rfl, hb1⟩
set_option maxRecDepth 100000 in
/-- strings.Clone. -/
theorem clone7 (s : ByteArray) (w : World) (h0 : s.size ≤ 1000000) :
    Calls Try.prog 51 #[.string s] w fun e w' => e = .returned (.string s) ∧ Below w.heap.size w w' := by
  have H0 : Hid (s.size ≤ 281474976710656) := Lib.hid (by omega)
  clear h0
  go_enter Try.func51, Try.ntmps51
  go_wp2_with (go_at_call 74; (with_reducible refine (Try.stringslite_Clone s w H0.out).mono ?_); rintro e w1 ⟨rfl, hb1⟩)
  go_ret
  exact ⟨rfl, hb1⟩
end Hx
end Go.Proofs.Ytfdhogaknlabkaa
